/- All: the tokens of a text, or none and what is wrong. -/
import Derived.Test.YtopnbemodlcknaaDoorLxA0
namespace Go.Proofs.YtopnbemodlcknaaDoor.Lx
open Go.RowKit Go.Shelf M
attribute [local go_sem] Oper.semAt_some
set_option linter.unusedSimpArgs false
set_option linter.unusedVariables false

/-- An error as it is told. -/
def ErrV : Rd → Value → World → Prop
  | .tok _, _, _ => False
  | .pos x y e, v, W => ∃ g, v = .iface 47 (.pointer (some ⟨g, 0, none⟩)) ∧ IsS W g 50 (faultL x y e)
  | .long, v, _ => v = .iface 48 (.int .i64 1)
/-- An error's block is one's own. -/
def ErrO : Value → (Nat → Prop) → Prop
  | .iface _ (.pointer (some p)), O => O p.block
  | _, _ => True
theorem errV_keep {r : Rd} {v : Value} {O : Nat → Prop} {X Y : World} (h : ErrV r v X) (ho : ErrO v O) (hk : Keep O X Y) : ErrV r v Y := by
  cases r with
  | tok t => exact h
  | long => exact h
  | pos x y e =>
    obtain ⟨g, rfl, hg⟩ := h
    exact ⟨g, rfl, hk.block g _ ho hg⟩
theorem errV_some {r : Rd} {v : Value} {X : World} (h : ErrV r v X) : ∃ t u, v = .iface t u ∧ u.oneCell' = true := by
  cases r with
  | tok t => exact h.elim
  | long => exact ⟨_, _, h, rfl⟩
  | pos x y e => obtain ⟨g, rfl, _⟩ := h; exact ⟨_, _, rfl, rfl⟩

set_option maxRecDepth 100000 in
theorem tokensF_any (s : ByteArray) (w : World) : Calls Tryd.prog 15 #[.string s] w fun e w' => ∃ bb, e = .returned (.func (.func 19) #[] #[.pointer (some ⟨bb, 0, none⟩)]) ∧ bb < w'.heap.size ∧ w'.cell? ⟨bb, 0, none⟩ = some (.string s) ∧ Below w.heap.size w w' := by
  go_enter Tryd.func15, Tryd.ntmps15
  go_wp2
  go_ret
  exact ⟨w.heap.size, rfl, by simp, by simp, (Below.refl _ _).alloc (Nat.le_refl _) _⟩
theorem tokens_all (s : ByteArray) (hs : s.size < 4611686018427387904) (bb : Nat) (w : World) (hbb : bb < w.heap.size) (hc : w.cell? ⟨bb, 0, none⟩ = some (.string s)) :
    SeqM 19 #[.pointer (some ⟨bb, 0, none⟩)] RdEnc (rounds s.data.toList) w := by
  unfold rounds
  rw [← sizeL]
  split
  · exact tokens_long s hs ‹_› bb w hbb hc
  · exact tokens_seq s (by omega) bb w hbb hc

/-- What All answers. -/
def AllAns (ts : List Tok) : Option Rd → Ending → World → World → Prop
  | none, e, w, w' => ∃ v, e = .returned (.tuple #[v, .nilIface]) ∧ w'.ownsRow w.heap.size 44 7 v ts.length (cellsT ts)
  | some r, e, _, w' => ∃ ev, e = .returned (.tuple #[.slice none 0 0, ev]) ∧ ErrV r ev w'

theorem results_2 {fn : Func} {p q : Tmp} (h : fn.results = #[.cell p 40, .cell q 28]) {tmps : Array Value} {w : World} {b c : Nat} {v u : Value} (hp : tmps.getD p undef = .pointer (some ⟨b, 0, none⟩)) (hq : tmps.getD q undef = .pointer (some ⟨c, 0, none⟩)) (hb : IsS w b 40 [v]) (hc : IsS w c 28 [u]) : (results fn tmps).run Tryd.prog w = .ok (.tuple #[v, u]) w := by
  have hp' : tmps[p]?.getD undef = .pointer (some ⟨b, 0, none⟩) := by simpa using hp
  have hq' : tmps[q]?.getD undef = .pointer (some ⟨c, 0, none⟩) := by simpa using hq
  have h1 : w.cell? ⟨b, 0, none⟩ = some v := hb.cell 0
  have h2 : w.cell? ⟨c, 0, none⟩ = some u := hc.cell 0
  simp only [results, h]
  simp [Sem.run_bind, Result.andThen, hp', hq', asAddr, go_sem, h1, h2]
theorem info24 : (Tryd.prog.info? 40).map (·.size) = some 1 := by kernel_rfl
theorem info26 : (Tryd.prog.info? 28).map (·.size) = some 1 := by kernel_rfl
theorem own_ne {W : World} {base e s n b t : Nat} {v : Value} {xs cs : List Value} (h : W.ownsRow base e s v n xs) (hc : IsS W b t cs) (hte : t ≠ e) : v.ownBlock ≠ some b := by
  rcases h.2 with ⟨rfl, _⟩ | ⟨g, cap, cur, rfl, hg, hh, rest⟩
  · intro e; cases e
  · intro e'
    cases e'
    rw [show W.heap[g]? = _ from hc] at hh
    cases hh
    exact hte rfl
/-- What is laid in a loop's body. -/
structure AllI (w : World) (r2 r3 r4 : Nat) (pre : List Rd) (O : Nat → Prop) (W : World) : Prop where
  ex : ∃ (us : List Tok) (v : Value), pre = us.map Rd.tok ∧ IsS W r4 40 [v] ∧ W.ownsRow w.heap.size 44 7 v us.length (cellsT us) ∧ ∀ g, v.ownBlock = some g → O g
  c2 : IsS W r2 40 [.slice none 0 0]
  c3 : IsS W r3 28 [.nilIface]
  bel : Below w.heap.size w W
  low : ∀ k, k < w.heap.size → O k
  o2 : O r2
  o3 : O r3
  o4 : O r4
  bd : ∀ k, O k → k < W.heap.size
theorem below_keep {w X Y : World} {O : Nat → Prop} (h : Below w.heap.size w X) (hk : Keep O X Y) (hl : ∀ k, k < w.heap.size → O k) : Below w.heap.size w Y :=
  ⟨hk.os.trans h.os, hk.tape.trans h.tape, hk.output.trans h.output, Nat.le_trans h.size hk.size, fun k hk' => by
    obtain ⟨o, ho⟩ : ∃ o, w.heap[k]? = some o := ⟨_, Array.getElem?_eq_getElem hk'⟩
    rw [hk.block k o (hl k hk') ((h.block k hk').trans ho), ho]⟩
theorem allI_abides (w : World) (r2 r3 r4 : Nat) (pre : List Rd) : Abides (AllI w r2 r3 r4 pre) := fun O X Y h hk => by
  obtain ⟨us, v, hp, h4, hv, hg⟩ := h.ex
  exact ⟨⟨us, v, hp, hk.block _ _ h.o4 h4, own_keep hv hk hg, hg⟩, hk.block _ _ h.o2 h.c2, hk.block _ _ h.o3 h.c3, below_keep h.bel hk h.low, h.low, h.o2, h.o3, h.o4, fun k hk' => Nat.lt_of_lt_of_le (h.bd k hk') hk.size⟩
/-- What is laid where the loop is left. -/
def AllX (w : World) (r2 r3 : Nat) (c : Code) (pre : List Rd) (O : Nat → Prop) (W : World) : Prop :=
  c = .ret ∧ (∃ (us : List Tok) (r : Rd) (ev : Value), pre = us.map Rd.tok ++ [r] ∧ ErrV r ev W ∧ ErrO ev O ∧ IsS W r3 28 [ev]) ∧ IsS W r2 40 [.slice none 0 0] ∧ Below w.heap.size w W ∧ (∀ k, k < w.heap.size → O k) ∧ O r2 ∧ O r3
theorem allX_abides (w : World) (r2 r3 : Nat) (c : Code) (pre : List Rd) : Abides (AllX w r2 r3 c pre) := fun O X Y ⟨h1, ⟨us, r, ev, h2, h3, h4, h5⟩, h6, h7, h8, h9, h10⟩ hk =>
  ⟨h1, ⟨us, r, ev, h2, errV_keep h3 h4 hk, h4, hk.block _ _ h10 h5⟩, hk.block _ _ h9 h6, below_keep h7 hk h8, h8, h9, h10⟩
/-- What is laid between a round's head and its body. -/
def AllM (w : World) (r2 r3 r4 : Nat) (s : ByteArray) (fv : Value) (pre : List Rd) (x : Rd) (a' : Act) (O : Nat → Prop) (W : World) : Prop :=
  AllI w r2 r3 r4 pre O W ∧ ∃ Bx t ev, O Bx ∧ IsS W Bx 44 (tokL t) ∧ (x = .tok t ∧ ev = .nilIface ∨ ErrV x ev W ∧ ErrO ev O) ∧
    a' = { tmps := #[.string s, undef, .pointer (some ⟨r2, 0, none⟩), .pointer (some ⟨r3, 0, none⟩), .pointer (some ⟨r4, 0, none⟩), .pointer (some ⟨Bx, 0, none⟩), ev, .string s, fv, tokV t, ev, undef, undef, undef, undef, undef, undef, undef, undef], defers := [] }
theorem allM_abides (w : World) (r2 r3 r4 : Nat) (s : ByteArray) (fv : Value) (pre : List Rd) (x : Rd) (a' : Act) : Abides (AllM w r2 r3 r4 s fv pre x a') := fun O X Y ⟨h1, Bx, t, ev, h2, h3, h4, h5⟩ hk =>
  ⟨allI_abides w r2 r3 r4 pre O X Y h1 hk, Bx, t, ev, h2, hk.block _ _ h2 h3, h4.imp id (fun h => ⟨errV_keep h.1 h.2 hk, h.2⟩), h5⟩
theorem chg_grow {O O' : Nat → Prop} {A : Nat → Prop} {X Y : World} (h : Below X.heap.size X Y) (ho : ∀ k, O' k → O k ∨ A k ∨ X.heap.size ≤ k) (hb : ∀ k, O' k → k < Y.heap.size) : Chg O A O' X Y :=
  ⟨h.os, h.tape, h.output, h.size, fun k o _ _ hk => (h.block k (Array.getElem?_eq_some_iff.1 hk).1).trans hk, ho, hb⟩
theorem chg_upd {O O' A : Nat → Prop} {X Y Z : World} {b : Nat} (h : Chg O A O' X Y) (U : Upd Y Z b) (hb : O b ∨ A b ∨ X.heap.size ≤ b) : Chg O A O' X Z :=
  ⟨U.os.trans h.os, U.tape.trans h.tape, U.output.trans h.output, by rw [U.size]; exact h.size, fun k o h1 h2 hk => (U.block k (fun e => by
    subst e
    rcases hb with hb | hb | hb
    · exact h1 hb
    · exact h2 hb
    · have := (Array.getElem?_eq_some_iff.1 hk).1; omega)).trans (h.block k o h1 h2 hk), h.own, fun k hk => by rw [U.size]; exact h.bd k hk⟩
end Go.Proofs.YtopnbemodlcknaaDoor.Lx

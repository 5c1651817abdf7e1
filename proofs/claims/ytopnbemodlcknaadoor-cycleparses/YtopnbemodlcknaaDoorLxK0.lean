/- Where a lexer stands, one step of it, and the program's lexer by steps. -/
import Derived.Test.YtopnbemodlcknaaDoorLxA2
namespace Go.Proofs.YtopnbemodlcknaaDoor.Lx
open Go.RowKit M
set_option linter.unusedSimpArgs false
set_option linter.unusedVariables false

/-- Where a lexer stands: at a place, behind a fault, or before a text that is too long. -/
inductive LS where
  | ok (p : Nat)
  | bad (x y e : Nat)
  | long
def LS.F : LS → Int × Int × Int
  | .ok _ => (0, 0, 0)
  | .bad x y e => ((x : Int), (y : Int), (e : Int))
  | .long => (-1, 0, 1)
def LS.rd : LS → Option Rd
  | .ok _ => none
  | .bad x y e => some (.pos x y e)
  | .long => some .long
def LS.good (l : List UInt8) : LS → Prop
  | .ok p => p ≤ l.length ∧ l.length ≤ 1048576
  | .bad _ _ e => e ≠ 0 ∧ l.length ≤ 1048576
  | .long => 1048576 < l.length
def LS.start (l : List UInt8) : LS := if 1048576 < l.length then .long else .ok 0
theorem start_good (l : List UInt8) : (LS.start l).good l := by
  unfold LS.start
  split
  · assumption
  · exact ⟨Nat.zero_le _, by omega⟩
/-- One step. -/
inductive Step (l : List UInt8) : LS → LS → Tok → Prop
  | long : Step l .long .long noTok
  | bad (x y e : Nat) : Step l (.bad x y e) (.bad x y e) noTok
  | com (p n m z1 z2 : Nat) (hn : (blkF (l.drop p)).1 = n) (hc : (blkF (l.drop p)).2 = false) (hm : p + n = m) (hz : spotF (1, 1) (l.take m) = (z1, z2)) : Step l (.ok p) (.bad z1 z2 51) noTok
  | fin (p n m z1 z2 : Nat) (hn : (blkF (l.drop p)).1 = n) (hc : (blkF (l.drop p)).2 = true) (hm : p + n = m) (hz : spotF (1, 1) (l.take m) = (z1, z2)) (he : m = l.length) : Step l (.ok p) (.ok m) ⟨0, [], 0, z1, z2, m, m⟩
  | tok (p n m z1 z2 kd : Nat) (tx : List UInt8) (vl : Int) (ln k : Nat) (hn : (blkF (l.drop p)).1 = n) (hc : (blkF (l.drop p)).2 = true) (hm : p + n = m) (hz : spotF (1, 1) (l.take m) = (z1, z2)) (he : m < l.length) (hC : cutF (l.drop m) = ⟨kd, tx, vl, ln, 0⟩) (hk : m + ln = k) : Step l (.ok p) (.ok k) ⟨kd, tx, vl, z1, z2, m, k⟩
  | wrong (p n m z1 z2 kd : Nat) (tx : List UInt8) (vl : Int) (ln wr k u1 u2 : Nat) (hn : (blkF (l.drop p)).1 = n) (hc : (blkF (l.drop p)).2 = true) (hm : p + n = m) (hz : spotF (1, 1) (l.take m) = (z1, z2)) (he : m < l.length) (hC : cutF (l.drop m) = ⟨kd, tx, vl, ln, wr⟩) (hw : wr ≠ 0) (hk : m + ln = k) (hu : spotF (1, 1) (l.take k) = (u1, u2)) : Step l (.ok p) (.bad u1 u2 wr) noTok
theorem blk_le (l : List UInt8) (p : Nat) (hp : p ≤ l.length) : p + (blkF (l.drop p)).1 ≤ l.length := by
  have := blkF_le (l.drop p); rw [List.length_drop] at this; omega
theorem cut_le (l : List UInt8) (m : Nat) (hm : m ≤ l.length) : m + (cutF (l.drop m)).length ≤ l.length := by
  have := cutF_le (l.drop m); rw [List.length_drop] at this; omega
theorem step_ex {l : List UInt8} {st : LS} (h : st.good l) : ∃ st' t, Step l st st' t ∧ st'.good l := by
  cases st with
  | long => exact ⟨_, _, .long, h⟩
  | bad x y e => exact ⟨_, _, .bad x y e, h⟩
  | ok p =>
    have hb := blk_le l p h.1
    cases hc : (blkF (l.drop p)).2 with
    | false => exact ⟨_, _, .com p _ _ _ _ rfl hc rfl rfl, by simp [LS.good]; exact h.2⟩
    | true =>
      rcases Nat.lt_or_ge (p + (blkF (l.drop p)).1) l.length with hlt | hge
      · have hcl := cut_le l (p + (blkF (l.drop p)).1) hb
        by_cases hw : (cutF (l.drop (p + (blkF (l.drop p)).1))).wrong = 0
        · refine ⟨_, _, .tok p _ _ _ _ (cutF (l.drop (p + (blkF (l.drop p)).1))).kind (cutF (l.drop (p + (blkF (l.drop p)).1))).text (cutF (l.drop (p + (blkF (l.drop p)).1))).value (cutF (l.drop (p + (blkF (l.drop p)).1))).length _ rfl hc rfl rfl hlt ?_ rfl, hcl, h.2⟩
          rw [← hw]
        · exact ⟨_, _, .wrong p _ _ _ _ _ _ _ _ _ _ _ _ rfl hc rfl rfl hlt rfl hw rfl rfl, hw, h.2⟩
      · exact ⟨_, _, .fin p _ _ _ _ rfl hc rfl rfl (by omega), by exact ⟨hb, h.2⟩⟩
theorem step_good {l : List UInt8} {st st' : LS} {t : Tok} (h : st.good l) (hs : Step l st st' t) : st'.good l := by
  cases hs with
  | long => exact h
  | bad x y e => exact h
  | com p n m z1 z2 hn hc hm hz => exact ⟨by decide, h.2⟩
  | fin p n m z1 z2 hn hc hm hz he => exact ⟨by omega, h.2⟩
  | tok p n m z1 z2 kd tx vl ln k hn hc hm hz he hC hk =>
    have := cut_le l m (by omega)
    rw [hC] at this
    exact ⟨by dsimp only at this; omega, h.2⟩
  | wrong p n m z1 z2 kd tx vl ln wr k u1 u2 hn hc hm hz he hC hw hk hu => exact ⟨hw, h.2⟩
theorem spot_upto (l : List UInt8) (q : Nat × Nat) (p n : Nat) : spotF (spotF q (l.take p)) ((l.drop p).take n) = spotF q (l.take (p + n)) := by
  rw [← spot_app, ← List.take_add]
theorem spot_small (l : List UInt8) (m : Nat) (hl : l.length ≤ 1048576) {z1 z2 : Nat} (h : spotF (1, 1) (l.take m) = (z1, z2)) : z1 < 2305843009213693952 ∧ z2 < 2305843009213693952 := by
  have := spot_le (l.take m) (1, 1)
  rw [h, List.length_take] at this
  dsimp only at this
  omega
/-- An error or none, as it is told. -/
def ErrI : Option Rd → Value → World → Prop
  | none, v, _ => v = .nilIface
  | some r, v, W => ErrV r v W
theorem errI_keep {r : Option Rd} {v : Value} {O : Nat → Prop} {X Y : World} (h : ErrI r v X) (ho : ErrO v O) (hk : Keep O X Y) : ErrI r v Y := by
  cases r with
  | none => exact h
  | some r => exact errV_keep h ho hk
/-- The program's lexer of a text, at a state. -/
def PLex (w : World) (b : Nat) (s : ByteArray) : LS → Prop
  | .ok p => IsS w b 78 (lexL s p (spotF (1, 1) (s.data.toList.take p)) 0)
  | .bad x y e => ∃ p, IsS w b 78 (lexL s p (x, y) e)
  | .long => ∃ p q e, IsS w b 78 (lexL s p q e)
theorem PLex.lt {w : World} {b : Nat} {s : ByteArray} {st : LS} (h : PLex w b s st) : b < w.heap.size := by
  cases st with
  | ok p => exact IsS.lt h
  | bad x y e => obtain ⟨_, h⟩ := h; exact h.lt
  | long => obtain ⟨_, _, _, h⟩ := h; exact h.lt
theorem PLex.move {w W : World} {b : Nat} {s : ByteArray} {st : LS} (h : PLex w b s st) (hk : ∀ o, w.heap[b]? = some o → W.heap[b]? = some o) : PLex W b s st := by
  cases st with
  | ok p => exact hk _ h
  | bad x y e => obtain ⟨p, h⟩ := h; exact ⟨p, hk _ h⟩
  | long => obtain ⟨p, q, e, h⟩ := h; exact ⟨p, q, e, hk _ h⟩
theorem PLex.turnL {w W : World} {b b' : Nat} {s : ByteArray} {st : LS} (h : PLex w b s st) (T : Turn w W b') (hb : b ≠ b') : PLex W b s st := h.move fun o ho => (T.block b h.lt hb).trans ho
theorem PLex.grown {w W : World} {b : Nat} {s : ByteArray} {st : LS} (h : PLex w b s st) (B : Below w.heap.size w W) : PLex W b s st := h.move fun o ho => (B.block b h.lt).trans ho
theorem PLex.upd {w W : World} {b b' : Nat} {s : ByteArray} {st : LS} (h : PLex w b s st) (U : Upd w W b') (hb : b ≠ b') : PLex W b s st := h.move fun o ho => (U.block b hb).trans ho

theorem pnew_any (s : ByteArray) (w : World) : Calls Tryd.prog 20 #[.string s] w fun e w' => (∃ b, e = .returned (.pointer (some ⟨b, 0, none⟩)) ∧ w.heap.size ≤ b ∧ PLex w' b s (LS.start s.data.toList)) ∧ Below w.heap.size w w' := by
  refine (new_any s w).mono ?_
  rintro e w' ⟨⟨b, rfl, hb, h⟩, B⟩
  refine ⟨⟨b, rfl, hb, ?_⟩, B⟩
  unfold LS.start
  split
  · exact ⟨_, _, _, h⟩
  · exact h
theorem pnext_any (s : ByteArray) (hsz : s.size < 4611686018427387904) (b : Nat) (st st' : LS) (t : Tok) (hg : st.good s.data.toList) (hst : Step s.data.toList st st' t) (w : World) (hL : PLex w b s st) :
    Calls Tryd.prog 21 #[.pointer (some ⟨b, 0, none⟩)] w fun en w' => (∃ ev, en = .returned (.tuple #[tokV t, ev]) ∧ ErrI st'.rd ev w' ∧ ErrO ev (fun k => w.heap.size ≤ k)) ∧ PLex w' b s st' ∧ Turn w w' b := by
  cases hst with
  | long =>
    obtain ⟨p, ⟨x, y⟩, E, h⟩ := hL
    refine (next_long s hsz (by have h' : 1048576 < s.data.toList.length := hg; rw [← sizeL] at h'; exact h') b p x y E w h).mono ?_
    rintro en w' ⟨⟨rfl, K⟩, T⟩
    exact ⟨⟨_, rfl, rfl, trivial⟩, ⟨p, (x, y), E, K⟩, T⟩
  | bad x y e =>
    obtain ⟨p, h⟩ := hL
    refine (next_bad s (by have := hg.2; rw [← sizeL] at this; exact this) b p x y e hg.1 w h).mono ?_
    rintro en w' ⟨⟨⟨g, rfl, hgg, G⟩, K⟩, T⟩
    exact ⟨⟨_, rfl, ⟨g, rfl, G⟩, hgg⟩, ⟨p, K⟩, T⟩
  | com p n m z1 z2 hn hc hm hz =>
    have h2 : s.size ≤ 1048576 := (by have := hg.2; rw [← sizeL] at this; exact this)
    have h1 : p ≤ s.size := (by have := hg.1; rw [← sizeL] at this; exact this)
    obtain ⟨⟨x, y⟩, hq⟩ : ∃ q, spotF (1, 1) (s.data.toList.take p) = q := ⟨_, rfl⟩
    have hb := spot_small _ p hg.2 hq
    have h : IsS w b 78 (lexL s p (x, y) 0) := (by rw [← hq]; exact hL)
    refine (next_com s h2 b p x y n z1 z2 h1 hb.1 hb.2 hn hc (by rw [← hq, spot_upto, hm, hz]) m hm w h).mono ?_
    rintro en w' ⟨⟨⟨g, rfl, hgg, G⟩, K⟩, T⟩
    exact ⟨⟨_, rfl, ⟨g, rfl, G⟩, hgg⟩, ⟨m, K⟩, T⟩
  | fin p n m z1 z2 hn hc hm hz he =>
    have h2 : s.size ≤ 1048576 := (by have := hg.2; rw [← sizeL] at this; exact this)
    have h1 : p ≤ s.size := (by have := hg.1; rw [← sizeL] at this; exact this)
    obtain ⟨⟨x, y⟩, hq⟩ : ∃ q, spotF (1, 1) (s.data.toList.take p) = q := ⟨_, rfl⟩
    have hb := spot_small _ p hg.2 hq
    have h : IsS w b 78 (lexL s p (x, y) 0) := (by rw [← hq]; exact hL)
    refine (next_end s h2 b p x y n z1 z2 h1 hb.1 hb.2 hn hc (by rw [← hq, spot_upto, hm, hz]) m hm (by rw [he, ← sizeL]) w h).mono ?_
    rintro en w' ⟨⟨rfl, K⟩, T⟩
    refine ⟨⟨_, rfl, rfl, trivial⟩, ?_, T⟩
    show IsS w' b 78 (lexL s m (spotF (1, 1) (s.data.toList.take m)) 0)
    rw [hz]; exact K
  | tok p n m z1 z2 kd tx vl ln k hn hc hm hz he hC hk =>
    have h2 : s.size ≤ 1048576 := (by have := hg.2; rw [← sizeL] at this; exact this)
    have h1 : p ≤ s.size := (by have := hg.1; rw [← sizeL] at this; exact this)
    obtain ⟨⟨x, y⟩, hq⟩ : ∃ q, spotF (1, 1) (s.data.toList.take p) = q := ⟨_, rfl⟩
    obtain ⟨⟨u1, u2⟩, hu⟩ : ∃ q, spotF (1, 1) (s.data.toList.take k) = q := ⟨_, rfl⟩
    have hb := spot_small _ p hg.2 hq
    have hb2 := spot_small _ m hg.2 hz
    have h : IsS w b 78 (lexL s p (x, y) 0) := (by rw [← hq]; exact hL)
    refine (next_tok s h2 b p x y n z1 z2 h1 hb.1 hb.2 hn hc (by rw [← hq, spot_upto, hm, hz]) m hm (by rw [← sizeL] at he; exact he) kd tx vl ln 0 u1 u2 k hC (by rw [← hz, spot_upto, hk, hu]) hk hb2.1 hb2.2 rfl w h).mono ?_
    rintro en w' ⟨⟨rfl, K⟩, T⟩
    refine ⟨⟨_, rfl, rfl, trivial⟩, ?_, T⟩
    show IsS w' b 78 (lexL s k (spotF (1, 1) (s.data.toList.take k)) 0)
    rw [hu]; exact K
  | wrong p n m z1 z2 kd tx vl ln wr k u1 u2 hn hc hm hz he hC hw hk hu =>
    have h2 : s.size ≤ 1048576 := (by have := hg.2; rw [← sizeL] at this; exact this)
    have h1 : p ≤ s.size := (by have := hg.1; rw [← sizeL] at this; exact this)
    obtain ⟨⟨x, y⟩, hq⟩ : ∃ q, spotF (1, 1) (s.data.toList.take p) = q := ⟨_, rfl⟩
    have hb := spot_small _ p hg.2 hq
    have hb2 := spot_small _ m hg.2 hz
    have h : IsS w b 78 (lexL s p (x, y) 0) := (by rw [← hq]; exact hL)
    refine (next_wrong s h2 b p x y n z1 z2 h1 hb.1 hb.2 hn hc (by rw [← hq, spot_upto, hm, hz]) m hm (by rw [← sizeL] at he; exact he) kd tx vl ln wr u1 u2 k hC (by rw [← hz, spot_upto, hk, hu]) hk hb2.1 hb2.2 hw w h).mono ?_
    rintro en w' ⟨⟨⟨g, rfl, hgg, G⟩, K⟩, T⟩
    exact ⟨⟨_, rfl, ⟨g, rfl, G⟩, hgg⟩, ⟨k, K⟩, T⟩

/-- The rounds from a state on, by steps. -/
theorem go_step {l : List UInt8} {p f : Nat} {st' : LS} {t : Tok} (h : Step l (.ok p) st' t) (hf : l.length < p + f) (hp : p ≤ l.length) :
    (∃ k f', st' = .ok k ∧ p < k ∧ f' + 1 = f ∧ 1 ≤ t.kind ∧ goF f l p (spotF (1, 1) (l.take p)) = .tok t :: goF f' l k (spotF (1, 1) (l.take k)))
    ∨ (∃ k, st' = .ok k ∧ t.kind = 0 ∧ goF f l p (spotF (1, 1) (l.take p)) = [])
    ∨ (∃ x y e, st' = .bad x y e ∧ e ≠ 0 ∧ goF f l p (spotF (1, 1) (l.take p)) = [.pos x y e]) := by
  obtain ⟨f, rfl⟩ : ∃ g, f = g + 1 := ⟨f - 1, by omega⟩
  cases h with
  | com p n m z1 z2 hn hc hm hz =>
    exact .inr (.inr ⟨_, _, _, rfl, by decide, go_com hn hc (by rw [spot_upto, hm, hz])⟩)
  | fin p n m z1 z2 hn hc hm hz he =>
    exact .inr (.inl ⟨_, rfl, rfl, go_end hn hc (by omega)⟩)
  | tok p n m z1 z2 kd tx vl ln k hn hc hm hz he hC hk =>
    have hcp := cut_pos (l := l.drop m) (by rw [hC])
    rw [hC] at hcp
    dsimp only at hcp
    refine .inl ⟨k, f, rfl, by omega, rfl, hcp.2, ?_⟩
    have := go_tok (f := f) hn hc hm he (q := spotF (1, 1) (l.take p)) (z := (z1, z2)) (u := spotF (1, 1) (l.take k)) (by rw [spot_upto, hm, hz]) hC (by rw [← hz, spot_upto]; dsimp only; rw [hk]) rfl
    rw [this]
    dsimp only
    rw [hk]
  | wrong p n m z1 z2 kd tx vl ln wr k u1 u2 hn hc hm hz he hC hw hk hu =>
    refine .inr (.inr ⟨_, _, _, rfl, hw, ?_⟩)
    exact go_wrong (f := f) hn hc hm he (q := spotF (1, 1) (l.take p)) (z := (z1, z2)) (u := (u1, u2)) (by rw [spot_upto, hm, hz]) hC (by rw [← hz, spot_upto]; dsimp only; rw [hk, hu]) hw
end Go.Proofs.YtopnbemodlcknaaDoor.Lx

/- Several texts in one: LxK0, LxV5. -/
import Derived.Test.YtjnbhcakfenbhaaGreatDoorQbs
import Derived.Test.YtjnbhcakfenbhaaGreatDoorQbo
import Derived.Deep.LoopGhost
import Derived.BigQuiet
/- Where a lexer stands, one step of it, and the program's lexer by steps. -/
namespace Go.Proofs.YtjnbhcakfenbhaaGreatDoor.Lx
open Go.RowKit M
set_option linter.unusedSimpArgs false
set_option linter.unusedVariables false

/-- Where a lexer stands: at a place, behind a fault, or before a text that is too long. -/
inductive LS where
  | ok (p : Nat)
  | bad (x y e : Nat)
  | long
def LS.F : LS → Int × Int × Int
  | .ok _ => (0, 0, 0)
  | .bad x y e => ((x : Int), (y : Int), (e : Int))
  | .long => (-1, 0, 1)
def LS.rd : LS → Option Rd
  | .ok _ => none
  | .bad x y e => some (.pos x y e)
  | .long => some .long
def LS.good (l : List UInt8) : LS → Prop
  | .ok p => p ≤ l.length ∧ l.length ≤ 1048576
  | .bad _ _ e => e ≠ 0 ∧ l.length ≤ 1048576
  | .long => 1048576 < l.length
def LS.start (l : List UInt8) : LS := if 1048576 < l.length then .long else .ok 0
theorem start_good (l : List UInt8) : (LS.start l).good l := by
  unfold LS.start
  split
  · assumption
  · exact ⟨Nat.zero_le _, by omega⟩
/-- One step. -/
inductive Step (l : List UInt8) : LS → LS → Tok → Prop
  | long : Step l .long .long noTok
  | bad (x y e : Nat) : Step l (.bad x y e) (.bad x y e) noTok
  | com (p n m z1 z2 : Nat) (hn : (blkF (l.drop p)).1 = n) (hc : (blkF (l.drop p)).2 = false) (hm : p + n = m) (hz : spotF (1, 1) (l.take m) = (z1, z2)) : Step l (.ok p) (.bad z1 z2 51) noTok
  | fin (p n m z1 z2 : Nat) (hn : (blkF (l.drop p)).1 = n) (hc : (blkF (l.drop p)).2 = true) (hm : p + n = m) (hz : spotF (1, 1) (l.take m) = (z1, z2)) (he : m = l.length) : Step l (.ok p) (.ok m) ⟨0, [], 0, z1, z2, m, m⟩
  | tok (p n m z1 z2 kd : Nat) (tx : List UInt8) (vl : Int) (ln k : Nat) (hn : (blkF (l.drop p)).1 = n) (hc : (blkF (l.drop p)).2 = true) (hm : p + n = m) (hz : spotF (1, 1) (l.take m) = (z1, z2)) (he : m < l.length) (hC : cutF (l.drop m) = ⟨kd, tx, vl, ln, 0⟩) (hk : m + ln = k) : Step l (.ok p) (.ok k) ⟨kd, tx, vl, z1, z2, m, k⟩
  | wrong (p n m z1 z2 kd : Nat) (tx : List UInt8) (vl : Int) (ln wr k u1 u2 : Nat) (hn : (blkF (l.drop p)).1 = n) (hc : (blkF (l.drop p)).2 = true) (hm : p + n = m) (hz : spotF (1, 1) (l.take m) = (z1, z2)) (he : m < l.length) (hC : cutF (l.drop m) = ⟨kd, tx, vl, ln, wr⟩) (hw : wr ≠ 0) (hk : m + ln = k) (hu : spotF (1, 1) (l.take k) = (u1, u2)) : Step l (.ok p) (.bad u1 u2 wr) noTok
theorem blk_le (l : List UInt8) (p : Nat) (hp : p ≤ l.length) : p + (blkF (l.drop p)).1 ≤ l.length := by
  have := blkF_le (l.drop p); rw [List.length_drop] at this; omega
theorem cut_le (l : List UInt8) (m : Nat) (hm : m ≤ l.length) : m + (cutF (l.drop m)).length ≤ l.length := by
  have := cutF_le (l.drop m); rw [List.length_drop] at this; omega
theorem step_ex {l : List UInt8} {st : LS} (h : st.good l) : ∃ st' t, Step l st st' t ∧ st'.good l := by
  cases st with
  | long => exact ⟨_, _, .long, h⟩
  | bad x y e => exact ⟨_, _, .bad x y e, h⟩
  | ok p =>
    have hb := blk_le l p h.1
    cases hc : (blkF (l.drop p)).2 with
    | false => exact ⟨_, _, .com p _ _ _ _ rfl hc rfl rfl, by simp [LS.good]; exact h.2⟩
    | true =>
      rcases Nat.lt_or_ge (p + (blkF (l.drop p)).1) l.length with hlt | hge
      · have hcl := cut_le l (p + (blkF (l.drop p)).1) hb
        by_cases hw : (cutF (l.drop (p + (blkF (l.drop p)).1))).wrong = 0
        · refine ⟨_, _, .tok p _ _ _ _ (cutF (l.drop (p + (blkF (l.drop p)).1))).kind (cutF (l.drop (p + (blkF (l.drop p)).1))).text (cutF (l.drop (p + (blkF (l.drop p)).1))).value (cutF (l.drop (p + (blkF (l.drop p)).1))).length _ rfl hc rfl rfl hlt ?_ rfl, hcl, h.2⟩
          rw [← hw]
        · exact ⟨_, _, .wrong p _ _ _ _ _ _ _ _ _ _ _ _ rfl hc rfl rfl hlt rfl hw rfl rfl, hw, h.2⟩
      · exact ⟨_, _, .fin p _ _ _ _ rfl hc rfl rfl (by omega), by exact ⟨hb, h.2⟩⟩
theorem step_good {l : List UInt8} {st st' : LS} {t : Tok} (h : st.good l) (hs : Step l st st' t) : st'.good l := by
  cases hs with
  | long => exact h
  | bad x y e => exact h
  | com p n m z1 z2 hn hc hm hz => exact ⟨by decide, h.2⟩
  | fin p n m z1 z2 hn hc hm hz he => exact ⟨by omega, h.2⟩
  | tok p n m z1 z2 kd tx vl ln k hn hc hm hz he hC hk =>
    have := cut_le l m (by omega)
    rw [hC] at this
    exact ⟨by dsimp only at this; omega, h.2⟩
  | wrong p n m z1 z2 kd tx vl ln wr k u1 u2 hn hc hm hz he hC hw hk hu => exact ⟨hw, h.2⟩
theorem spot_upto (l : List UInt8) (q : Nat × Nat) (p n : Nat) : spotF (spotF q (l.take p)) ((l.drop p).take n) = spotF q (l.take (p + n)) := by
  rw [← spot_app, ← List.take_add]
theorem spot_small (l : List UInt8) (m : Nat) (hl : l.length ≤ 1048576) {z1 z2 : Nat} (h : spotF (1, 1) (l.take m) = (z1, z2)) : z1 < 2305843009213693952 ∧ z2 < 2305843009213693952 := by
  have := spot_le (l.take m) (1, 1)
  rw [h, List.length_take] at this
  dsimp only at this
  omega
/-- An error or none, as it is told. -/
def ErrI : Option Rd → Value → World → Prop
  | none, v, _ => v = .nilIface
  | some r, v, W => ErrV r v W
theorem errI_keep {r : Option Rd} {v : Value} {O : Nat → Prop} {X Y : World} (h : ErrI r v X) (ho : ErrO v O) (hk : Keep O X Y) : ErrI r v Y := by
  cases r with
  | none => exact h
  | some r => exact errV_keep h ho hk
/-- The program's lexer of a text, at a state. -/
def PLex (w : World) (b : Nat) (s : ByteArray) : LS → Prop
  | .ok p => IsS w b 160 (lexL s p (spotF (1, 1) (s.data.toList.take p)) 0)
  | .bad x y e => ∃ p, IsS w b 160 (lexL s p (x, y) e)
  | .long => ∃ p q e, IsS w b 160 (lexL s p q e)
theorem PLex.lt {w : World} {b : Nat} {s : ByteArray} {st : LS} (h : PLex w b s st) : b < w.heap.size := by
  cases st with
  | ok p => exact IsS.lt h
  | bad x y e => obtain ⟨_, h⟩ := h; exact h.lt
  | long => obtain ⟨_, _, _, h⟩ := h; exact h.lt
theorem PLex.move {w W : World} {b : Nat} {s : ByteArray} {st : LS} (h : PLex w b s st) (hk : ∀ o, w.heap[b]? = some o → W.heap[b]? = some o) : PLex W b s st := by
  cases st with
  | ok p => exact hk _ h
  | bad x y e => obtain ⟨p, h⟩ := h; exact ⟨p, hk _ h⟩
  | long => obtain ⟨p, q, e, h⟩ := h; exact ⟨p, q, e, hk _ h⟩
theorem PLex.turnL {w W : World} {b b' : Nat} {s : ByteArray} {st : LS} (h : PLex w b s st) (T : Turn w W b') (hb : b ≠ b') : PLex W b s st := h.move fun o ho => (T.block b h.lt hb).trans ho
theorem PLex.grown {w W : World} {b : Nat} {s : ByteArray} {st : LS} (h : PLex w b s st) (B : Below w.heap.size w W) : PLex W b s st := h.move fun o ho => (B.block b h.lt).trans ho
theorem PLex.upd {w W : World} {b b' : Nat} {s : ByteArray} {st : LS} (h : PLex w b s st) (U : Upd w W b') (hb : b ≠ b') : PLex W b s st := h.move fun o ho => (U.block b hb).trans ho

theorem pnew_any (s : ByteArray) (w : World) : Calls Tryz.prog 57 #[.string s] w fun e w' => (∃ b, e = .returned (.pointer (some ⟨b, 0, none⟩)) ∧ w.heap.size ≤ b ∧ PLex w' b s (LS.start s.data.toList)) ∧ Below w.heap.size w w' := by
  refine (new_any s w).mono ?_
  rintro e w' ⟨⟨b, rfl, hb, h⟩, B⟩
  refine ⟨⟨b, rfl, hb, ?_⟩, B⟩
  unfold LS.start
  split
  · exact ⟨_, _, _, h⟩
  · exact h
theorem pnext_any (s : ByteArray) (hsz : s.size < 4611686018427387904) (b : Nat) (st st' : LS) (t : Tok) (hg : st.good s.data.toList) (hst : Step s.data.toList st st' t) (w : World) (hL : PLex w b s st) :
    Calls Tryz.prog 58 #[.pointer (some ⟨b, 0, none⟩)] w fun en w' => (∃ ev, en = .returned (.tuple #[tokV t, ev]) ∧ ErrI st'.rd ev w' ∧ ErrO ev (fun k => w.heap.size ≤ k)) ∧ PLex w' b s st' ∧ Turn w w' b := by
  cases hst with
  | long =>
    obtain ⟨p, ⟨x, y⟩, E, h⟩ := hL
    refine (next_long s hsz (by have h' : 1048576 < s.data.toList.length := hg; rw [← sizeL] at h'; exact h') b p x y E w h).mono ?_
    rintro en w' ⟨⟨rfl, K⟩, T⟩
    exact ⟨⟨_, rfl, rfl, trivial⟩, ⟨p, (x, y), E, K⟩, T⟩
  | bad x y e =>
    obtain ⟨p, h⟩ := hL
    refine (next_bad s (by have := hg.2; rw [← sizeL] at this; exact this) b p x y e hg.1 w h).mono ?_
    rintro en w' ⟨⟨⟨g, rfl, hgg, G⟩, K⟩, T⟩
    exact ⟨⟨_, rfl, ⟨g, rfl, G⟩, hgg⟩, ⟨p, K⟩, T⟩
  | com p n m z1 z2 hn hc hm hz =>
    have h2 : s.size ≤ 1048576 := (by have := hg.2; rw [← sizeL] at this; exact this)
    have h1 : p ≤ s.size := (by have := hg.1; rw [← sizeL] at this; exact this)
    obtain ⟨⟨x, y⟩, hq⟩ : ∃ q, spotF (1, 1) (s.data.toList.take p) = q := ⟨_, rfl⟩
    have hb := spot_small _ p hg.2 hq
    have h : IsS w b 160 (lexL s p (x, y) 0) := (by rw [← hq]; exact hL)
    refine (next_com s h2 b p x y n z1 z2 h1 hb.1 hb.2 hn hc (by rw [← hq, spot_upto, hm, hz]) m hm w h).mono ?_
    rintro en w' ⟨⟨⟨g, rfl, hgg, G⟩, K⟩, T⟩
    exact ⟨⟨_, rfl, ⟨g, rfl, G⟩, hgg⟩, ⟨m, K⟩, T⟩
  | fin p n m z1 z2 hn hc hm hz he =>
    have h2 : s.size ≤ 1048576 := (by have := hg.2; rw [← sizeL] at this; exact this)
    have h1 : p ≤ s.size := (by have := hg.1; rw [← sizeL] at this; exact this)
    obtain ⟨⟨x, y⟩, hq⟩ : ∃ q, spotF (1, 1) (s.data.toList.take p) = q := ⟨_, rfl⟩
    have hb := spot_small _ p hg.2 hq
    have h : IsS w b 160 (lexL s p (x, y) 0) := (by rw [← hq]; exact hL)
    refine (next_end s h2 b p x y n z1 z2 h1 hb.1 hb.2 hn hc (by rw [← hq, spot_upto, hm, hz]) m hm (by rw [he, ← sizeL]) w h).mono ?_
    rintro en w' ⟨⟨rfl, K⟩, T⟩
    refine ⟨⟨_, rfl, rfl, trivial⟩, ?_, T⟩
    show IsS w' b 160 (lexL s m (spotF (1, 1) (s.data.toList.take m)) 0)
    rw [hz]; exact K
  | tok p n m z1 z2 kd tx vl ln k hn hc hm hz he hC hk =>
    have h2 : s.size ≤ 1048576 := (by have := hg.2; rw [← sizeL] at this; exact this)
    have h1 : p ≤ s.size := (by have := hg.1; rw [← sizeL] at this; exact this)
    obtain ⟨⟨x, y⟩, hq⟩ : ∃ q, spotF (1, 1) (s.data.toList.take p) = q := ⟨_, rfl⟩
    obtain ⟨⟨u1, u2⟩, hu⟩ : ∃ q, spotF (1, 1) (s.data.toList.take k) = q := ⟨_, rfl⟩
    have hb := spot_small _ p hg.2 hq
    have hb2 := spot_small _ m hg.2 hz
    have h : IsS w b 160 (lexL s p (x, y) 0) := (by rw [← hq]; exact hL)
    refine (next_tok s h2 b p x y n z1 z2 h1 hb.1 hb.2 hn hc (by rw [← hq, spot_upto, hm, hz]) m hm (by rw [← sizeL] at he; exact he) kd tx vl ln 0 u1 u2 k hC (by rw [← hz, spot_upto, hk, hu]) hk hb2.1 hb2.2 rfl w h).mono ?_
    rintro en w' ⟨⟨rfl, K⟩, T⟩
    refine ⟨⟨_, rfl, rfl, trivial⟩, ?_, T⟩
    show IsS w' b 160 (lexL s k (spotF (1, 1) (s.data.toList.take k)) 0)
    rw [hu]; exact K
  | wrong p n m z1 z2 kd tx vl ln wr k u1 u2 hn hc hm hz he hC hw hk hu =>
    have h2 : s.size ≤ 1048576 := (by have := hg.2; rw [← sizeL] at this; exact this)
    have h1 : p ≤ s.size := (by have := hg.1; rw [← sizeL] at this; exact this)
    obtain ⟨⟨x, y⟩, hq⟩ : ∃ q, spotF (1, 1) (s.data.toList.take p) = q := ⟨_, rfl⟩
    have hb := spot_small _ p hg.2 hq
    have hb2 := spot_small _ m hg.2 hz
    have h : IsS w b 160 (lexL s p (x, y) 0) := (by rw [← hq]; exact hL)
    refine (next_wrong s h2 b p x y n z1 z2 h1 hb.1 hb.2 hn hc (by rw [← hq, spot_upto, hm, hz]) m hm (by rw [← sizeL] at he; exact he) kd tx vl ln wr u1 u2 k hC (by rw [← hz, spot_upto, hk, hu]) hk hb2.1 hb2.2 hw w h).mono ?_
    rintro en w' ⟨⟨⟨g, rfl, hgg, G⟩, K⟩, T⟩
    exact ⟨⟨_, rfl, ⟨g, rfl, G⟩, hgg⟩, ⟨k, K⟩, T⟩

/-- The rounds from a state on, by steps. -/
theorem go_step {l : List UInt8} {p f : Nat} {st' : LS} {t : Tok} (h : Step l (.ok p) st' t) (hf : l.length < p + f) (hp : p ≤ l.length) :
    (∃ k f', st' = .ok k ∧ p < k ∧ f' + 1 = f ∧ 1 ≤ t.kind ∧ goF f l p (spotF (1, 1) (l.take p)) = .tok t :: goF f' l k (spotF (1, 1) (l.take k)))
    ∨ (∃ k, st' = .ok k ∧ t.kind = 0 ∧ goF f l p (spotF (1, 1) (l.take p)) = [])
    ∨ (∃ x y e, st' = .bad x y e ∧ e ≠ 0 ∧ goF f l p (spotF (1, 1) (l.take p)) = [.pos x y e]) := by
  obtain ⟨f, rfl⟩ : ∃ g, f = g + 1 := ⟨f - 1, by omega⟩
  cases h with
  | com p n m z1 z2 hn hc hm hz =>
    exact .inr (.inr ⟨_, _, _, rfl, by decide, go_com hn hc (by rw [spot_upto, hm, hz])⟩)
  | fin p n m z1 z2 hn hc hm hz he =>
    exact .inr (.inl ⟨_, rfl, rfl, go_end hn hc (by omega)⟩)
  | tok p n m z1 z2 kd tx vl ln k hn hc hm hz he hC hk =>
    have hcp := cut_pos (l := l.drop m) (by rw [hC])
    rw [hC] at hcp
    dsimp only at hcp
    refine .inl ⟨k, f, rfl, by omega, rfl, hcp.2, ?_⟩
    have := go_tok (f := f) hn hc hm he (q := spotF (1, 1) (l.take p)) (z := (z1, z2)) (u := spotF (1, 1) (l.take k)) (by rw [spot_upto, hm, hz]) hC (by rw [← hz, spot_upto]; dsimp only; rw [hk]) rfl
    rw [this]
    dsimp only
    rw [hk]
  | wrong p n m z1 z2 kd tx vl ln wr k u1 u2 hn hc hm hz he hC hw hk hu =>
    refine .inr (.inr ⟨_, _, _, rfl, hw, ?_⟩)
    exact go_wrong (f := f) hn hc hm he (q := spotF (1, 1) (l.take p)) (z := (z1, z2)) (u := (u1, u2)) (by rw [spot_upto, hm, hz]) hC (by rw [← hz, spot_upto]; dsimp only; rw [hk, hu]) hw
end Go.Proofs.YtjnbhcakfenbhaaGreatDoor.Lx
/- The reference's lexer in memory: New, place. -/
namespace Go.Proofs.YtjnbhcakfenbhaaGreatDoor.Lx
open Go.RowKit M
set_option linter.unusedSimpArgs false
set_option linter.unusedVariables false

/-- The reference's lexer's cells: the text, the place, the fault, the place from which lines are counted on, its line and column. -/
def rlexL (s : ByteArray) (p : Nat) (F : Int × Int × Int) (f : Nat) (q : Nat × Nat) : List Value := [.string s, .int .i64 (p : Int), .int .i64 F.1, .int .i64 F.2.1, .int .i64 F.2.2, .int .i64 (f : Int), .int .i64 (q.1 : Int), .int .i64 (q.2 : Int)]
theorem info72 : (Tryz.prog.info? 135).map (·.size) = some 8 := by kernel_rfl
theorem info30 : (Tryz.prog.info? 29).map (·.size) = some 3 := by kernel_rfl

set_option maxRecDepth 100000 in
set_option maxHeartbeats 2000000 in
theorem rnew_any (s : ByteArray) (hs : s.size < 4611686018427387904) (w : World) : Calls Tryz.prog 40 #[.string s] w fun e w' => (∃ b, e = .returned (.pointer (some ⟨b, 0, none⟩)) ∧ w.heap.size ≤ b ∧ IsS w' b 135 (rlexL s 0 (if 1048576 < s.size then (-1, 0, 1) else (0, 0, 0)) 0 (1, 1))) ∧ Below w.heap.size w w' := by
  by_cases hb : 1048576 < s.size
  · have hi : (1048576 : Int) < s.size := by omega
    rw [if_pos hb]
    go_enter Tryz.func40, Tryz.ntmps40
    go_wp2_with (first
      | (refine wpList_boxS rfl 135 _ rfl (rlexL s 0 (0, 0, 0) 0 (1, 1)) rfl ?_; intro W2 b2 F2 N2; have hb2 : w.heap.size ≤ b2 := Nat.le_of_eq F2.at'.symm; have B2 := F2.trans (Below.refl _ _) (Nat.le_refl _); clear F2)
      | (refine wpList_storeS rfl 29 _ _ rfl rfl [.int .i64 (-1), .int .i64 0, .int .i64 1] rfl N2 (by simp [rlexL]) info30 (by simp [Value.oneCell']) ?_; intro W3 U3 N3x; have N3 : IsS W3 b2 135 (rlexL s 0 (-1, 0, 1) 0 (1, 1)) := N3x; have B3 := U3.trans B2 hb2; clear U3 N2 B2 N3x))
    go_ret
    exact ⟨⟨b2, rfl, hb2, N3⟩, B3⟩
  · have hi : ¬ (1048576 : Int) < s.size := by omega
    rw [if_neg hb]
    go_enter Tryz.func40, Tryz.ntmps40
    go_wp2_with (first
      | (refine wpList_boxS rfl 135 _ rfl (rlexL s 0 (0, 0, 0) 0 (1, 1)) rfl ?_; intro W2 b2 F2 N2; have hb2 : w.heap.size ≤ b2 := Nat.le_of_eq F2.at'.symm; have B2 := F2.trans (Below.refl _ _) (Nat.le_refl _); clear F2))
    go_ret
    exact ⟨⟨b2, rfl, hb2, N2⟩, B2⟩

theorem spot_snoc (s : ByteArray) (q : Nat × Nat) (f g : Nat) (hfg : f ≤ g) (hg : g < s.size) : spotF q ((s.data.toList.take (g + 1)).drop f) = stepP (spotF q ((s.data.toList.take g).drop f)) s[g] := by
  have hl : g < s.data.toList.length := by simpa using hg
  rw [List.take_succ_eq_append_getElem hl, List.drop_append_of_le_length (by rw [List.length_take]; omega), spot_app, spot_cons, spot_nil]
  rfl

set_option maxRecDepth 100000 in
set_option maxHeartbeats 4000000 in
theorem rplace_any (s : ByteArray) (hs : s.size ≤ 1048576) (b p f m x y : Nat) (F : Int × Int × Int) (hf : f ≤ m) (hm : m ≤ s.size) (hx : x < 2305843009213693952) (hy : y < 2305843009213693952) (w : World) (hL : IsS w b 135 (rlexL s p F f (x, y))) :
    Calls Tryz.prog 65 #[.pointer (some ⟨b, 0, none⟩), .int .i64 (m : Int)] w fun en w' => (en = .returned (.tuple #[.int .i64 ((spotF (x, y) ((s.data.toList.take m).drop f)).1 : Nat), .int .i64 ((spotF (x, y) ((s.data.toList.take m).drop f)).2 : Nat)]) ∧ IsS w' b 135 (rlexL s p F m (spotF (x, y) ((s.data.toList.take m).drop f)))) ∧ Turn w w' b := by
  obtain ⟨Z, hZ⟩ : ∃ Z, spotF (x, y) ((s.data.toList.take m).drop f) = Z := ⟨_, rfl⟩
  rw [hZ]
  have HZ : Hid (spotF (x, y) ((s.data.toList.take m).drop f) = Z) := hZ
  have hff : Hid (spotF (x, y) ((s.data.toList.take f).drop f) = (x, y)) := (by show _ = _; rw [List.drop_eq_nil_of_le (by rw [List.length_take]; omega)]; rfl)
  have hbd : Hid (∀ g, (spotF (x, y) ((s.data.toList.take g).drop f)).1 < 2305843009213693952 + 1048577 ∧ (spotF (x, y) ((s.data.toList.take g).drop f)).2 < 2305843009213693952 + 1048578) := fun g => by
    have := spot_bd ((s.data.toList.take g).drop f) (x, y)
    rw [List.length_drop, List.length_take, ← sizeL] at this
    dsimp only at this
    omega
  clear hZ
  have hF : Hid (F = F) := rfl
  obtain ⟨F1, F2, F3⟩ := F
  go_enter Tryz.func65, Tryz.ntmps65
  go_wp2_with fail
  go_loopg [6] (m - f) (fun g _ wr => ∃ k u v : Nat, g + k = m ∧ f ≤ k ∧ Hid (spotF (x, y) ((s.data.toList.take k).drop f) = (u, v)) ∧ IsS wr b 135 (rlexL s p (F1, F2, F3) k (u, v)) ∧ Turn w wr b)
  case atStart => exact ⟨f, x, y, by omega, by omega, hff, hL, Turn.of_below (Below.refl _ _) b⟩
  case round =>
    obtain ⟨k, u, v, hk, hfk, HS, K, T⟩ := hrel
    clear hff hL
    have hb1 := (hbd.out k).1
    have hb2 := (hbd.out k).2
    rw [HS.out] at hb1 hb2
    dsimp only at hb1 hb2
    have c5 : wr.cell? ⟨b, 5, none⟩ = some (.int .i64 (k : Int)) := K.cell 5
    by_cases hlt : k < m
    · have hi : (k : Int) < m := by omega
      have hki : (k : Int) < s.size := by omega
      have hks : k < s.size := by omega
      have c7 : wr.cell? ⟨b, 7, none⟩ = some (.int .i64 (v : Int)) := K.cell 7
      have hst := spot_snoc s (x, y) f k hfk hks
      rw [HS.out] at hst
      by_cases h10 : s[k].toNat = 10
      · have f10 : ((s[k].toNat : Int) == 10) = true := (by simp; omega)
        have HN : Hid (spotF (x, y) ((s.data.toList.take (k + 1)).drop f) = (u + 1, 1)) := (by show _ = _; rw [hst]; simp [stepP, h10])
        clear hst h10 HS
        go_wp2_with (first
          | (refine wpList_store1 rfl 3 _ _ rfl rfl (.int .i64 ((v : Int) + 1)) rfl K (by simp [rlexL]) info3 rfl ?_; intro W1 U1 K1x; have K1 : IsS W1 b 135 (rlexL s p (F1, F2, F3) k (u, v + 1)) := (by have := K1x; simpa [rlexL] using this); have T1 := T.trans (Turn.of_upd U1); clear U1 K1x K T c5 c7; have d0 : W1.cell? ⟨b, 0, none⟩ = some (.string s) := K1.cell 0; have d5 : W1.cell? ⟨b, 5, none⟩ = some (.int .i64 (k : Int)) := K1.cell 5))
        go_quiet (fail)
        have K2 : IsS (W1.drewN nq) b 135 (rlexL s p (F1, F2, F3) k (u, v + 1)) := K1
        have T2 := T1.drewN nq
        clear K1 T1 d0 d5
        generalize W1.drewN nq = W2 at *
        have e5 : W2.cell? ⟨b, 5, none⟩ = some (.int .i64 (k : Int)) := K2.cell 5
        have e6 : W2.cell? ⟨b, 6, none⟩ = some (.int .i64 (u : Int)) := K2.cell 6
        go_wp2_with (first
          | (refine wpList_store1 rfl 3 _ _ rfl rfl (.int .i64 ((u : Int) + 1)) rfl K2 (by simp [rlexL]) info3 rfl ?_; intro W3 U3 K3x; have K3 : IsS W3 b 135 (rlexL s p (F1, F2, F3) k (u + 1, v + 1)) := (by have := K3x; simpa [rlexL] using this); have T3 := T2.trans (Turn.of_upd U3); clear U3 K3x K2 T2 e5 e6)
          | (refine wpList_store1 rfl 3 _ _ rfl rfl (.int .i64 1) rfl K3 (by simp [rlexL]) info3 rfl ?_; intro W4 U4 K4x; have K4 : IsS W4 b 135 (rlexL s p (F1, F2, F3) k (u + 1, 1)) := (by have := K4x; simpa [rlexL] using this); have T4 := T3.trans (Turn.of_upd U4); clear U4 K4x K3 T3; have g5 : W4.cell? ⟨b, 5, none⟩ = some (.int .i64 (k : Int)) := K4.cell 5)
          | (refine wpList_store1 rfl 3 _ _ rfl rfl (.int .i64 ((k : Int) + 1)) rfl K4 (by simp [rlexL]) info3 rfl ?_; intro W5 U5 K5x; have K5 : IsS W5 b 135 (rlexL s p (F1, F2, F3) (k + 1) (u + 1, 1)) := (by have := K5x; simpa [rlexL] using this); have T5 := T4.trans (Turn.of_upd U5); clear U5 K5x K4 T4 g5))
        go_roundg (m - (k + 1))
        case measure => omega
        case rel => exact ⟨k + 1, u + 1, 1, by omega, by omega, HN, K5, T5⟩
      · have f10 : ((s[k].toNat : Int) == 10) = false := (by simp; omega)
        have HN : Hid (spotF (x, y) ((s.data.toList.take (k + 1)).drop f) = (u, v + 1)) := (by show _ = _; rw [hst]; simp [stepP, h10])
        clear hst h10 HS
        go_wp2_with (first
          | (refine wpList_store1 rfl 3 _ _ rfl rfl (.int .i64 ((v : Int) + 1)) rfl K (by simp [rlexL]) info3 rfl ?_; intro W1 U1 K1x; have K1 : IsS W1 b 135 (rlexL s p (F1, F2, F3) k (u, v + 1)) := (by have := K1x; simpa [rlexL] using this); have T1 := T.trans (Turn.of_upd U1); clear U1 K1x K T c5 c7; have d0 : W1.cell? ⟨b, 0, none⟩ = some (.string s) := K1.cell 0; have d5 : W1.cell? ⟨b, 5, none⟩ = some (.int .i64 (k : Int)) := K1.cell 5))
        go_quiet (fail)
        have K2 : IsS (W1.drewN nq) b 135 (rlexL s p (F1, F2, F3) k (u, v + 1)) := K1
        have T2 := T1.drewN nq
        clear K1 T1 d0 d5
        generalize W1.drewN nq = W2 at *
        have e5 : W2.cell? ⟨b, 5, none⟩ = some (.int .i64 (k : Int)) := K2.cell 5
        go_wp2_with (first
          | (refine wpList_store1 rfl 3 _ _ rfl rfl (.int .i64 ((k : Int) + 1)) rfl K2 (by simp [rlexL]) info3 rfl ?_; intro W5 U5 K5x; have K5 : IsS W5 b 135 (rlexL s p (F1, F2, F3) (k + 1) (u, v + 1)) := (by have := K5x; simpa [rlexL] using this); have T5 := T2.trans (Turn.of_upd U5); clear U5 K5x K2 T2 e5))
        go_roundg (m - (k + 1))
        case measure => omega
        case rel => exact ⟨k + 1, u, v + 1, by omega, by omega, HN, K5, T5⟩
    · obtain rfl : k = m := by omega
      have hi : ¬ (k : Int) < k := by omega
      have HZ' : Hid (Z = (u, v)) := (by show _ = _; rw [← HZ.out]; exact HS.out)
      have c6 : wr.cell? ⟨b, 6, none⟩ = some (.int .i64 (u : Int)) := K.cell 6
      have c7 : wr.cell? ⟨b, 7, none⟩ = some (.int .i64 (v : Int)) := K.cell 7
      clear HS HZ
      go_wp2_with fail
      go_quiet (fail)
      go_wp2_with fail
      go_ret2
      refine ⟨⟨?_, ?_⟩, T.drewN _⟩
      · rw [HZ'.out]; rfl
      · rw [HZ'.out]; exact K
end Go.Proofs.YtjnbhcakfenbhaaGreatDoor.Lx

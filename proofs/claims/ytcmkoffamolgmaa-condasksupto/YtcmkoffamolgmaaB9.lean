/- sameRefs; values by references; what lies still where the first answer is spoilt. -/
import Derived.Test.YtcmkoffamolgmaaB8
import Derived.Test.YtcmkoffamolgmaaL3
namespace Go.Proofs.Ytcmkoffamolgmaa
open Go Go.RowKit M
set_option linter.unusedSimpArgs false
set_option linter.unusedVariables false

set_option maxRecDepth 100000 in
set_option maxHeartbeats 4000000 in
theorem sameRefs_any (L : List NK) (n c1 c2 : Nat) (a1 a2 : Option Addr) (hl : L.length = n) (hn : n ≤ 1024) (w : World) (h1 : Seg w a1 (flatR L)) (h2 : Seg w a2 (flatR L)) :
    Calls Try.prog 7 #[.slice a1 n c1, .slice a2 n c2] w fun e w' => e = .returned (.bool true) ∧ Below w.heap.size w w' := by
  have H1 : Hid (Seg w a1 (flatR L)) := h1
  have H2 : Hid (Seg w a2 (flatR L)) := h2
  have HL : Hid (L.length = n) := hl
  clear h1 h2 hl
  go_enter Try.func7, Try.ntmps7
  go_wp2
  go_loopw [5] (fun i wr => ∃ k : Nat, k ≤ n ∧ i = .int .i64 (k : Int) ∧ Hid (Below w.heap.size w wr)) (fun i _ => n - (intOf i).toNat)
  case atStart => exact ⟨0, Nat.zero_le _, rfl, Below.refl _ _⟩
  case round =>
    obtain ⟨k, hk, rfl, HB⟩ := hrel
    by_cases hlt : k < n
    · have hki : (k : Int) < n := by omega
      obtain ⟨x, hx⟩ : ∃ x, L[k]? = some x := ⟨_, List.getElem?_eq_getElem (by rw [HL.out]; exact hlt)⟩
      obtain ⟨b1, o1, rfl, hb1, HX⟩ := seg_nk (H1.out.below HB.out) hx
      obtain ⟨b2, o2, rfl, hb2, HY⟩ := seg_nk (H2.out.below HB.out) hx
      clear hx
      go_wp2
      refine grow_allW (by kernel_rfl) (by kernel_rfl) ?_
      refine WG.put rfl (v := .slice (some ⟨b1, o1, none⟩) n c1) (fun w => by first | rfl | (go_simp; done) | (simp [go_sem]; done) | (simp [execOp, go_sem]; done)) ?_
      simp only [Act.put, List.setIfInBounds_toArray, List.set_cons_succ, List.set_cons_zero]
      refine WG.put rfl (v := .int .i64 (k : Int)) (fun w => by first | rfl | (go_simp; done) | (simp [go_sem]; done) | (simp [execOp, go_sem]; done)) ?_
      simp only [Act.put, List.setIfInBounds_toArray, List.set_cons_succ, List.set_cons_zero]
      refine WG.put rfl (v := .pointer (some ⟨b1, o1 + k * 2, none⟩)) (fun w => by first | rfl | (go_simp; done) | (simp [go_sem, hki]; done) | (simp [execOp, go_sem, hki]; done)) ?_
      simp only [Act.put, List.setIfInBounds_toArray, List.set_cons_succ, List.set_cons_zero]
      refine WG.nk (x := x) rfl _ rfl rfl hb1 HX ?_
      simp only [Act.put, List.setIfInBounds_toArray, List.set_cons_succ, List.set_cons_zero]
      refine WG.put rfl (v := .slice (some ⟨b2, o2, none⟩) n c2) (fun w => by first | rfl | (go_simp; done) | (simp [go_sem]; done) | (simp [execOp, go_sem]; done)) ?_
      simp only [Act.put, List.setIfInBounds_toArray, List.set_cons_succ, List.set_cons_zero]
      refine WG.put rfl (v := .int .i64 (k : Int)) (fun w => by first | rfl | (go_simp; done) | (simp [go_sem]; done) | (simp [execOp, go_sem]; done)) ?_
      simp only [Act.put, List.setIfInBounds_toArray, List.set_cons_succ, List.set_cons_zero]
      refine WG.put rfl (v := .pointer (some ⟨b2, o2 + k * 2, none⟩)) (fun w => by first | rfl | (go_simp; done) | (simp [go_sem, hki]; done) | (simp [execOp, go_sem, hki]; done)) ?_
      simp only [Act.put, List.setIfInBounds_toArray, List.set_cons_succ, List.set_cons_zero]
      refine WG.nk (x := x) rfl _ rfl rfl hb2 HY ?_
      simp only [Act.put, List.setIfInBounds_toArray, List.set_cons_succ, List.set_cons_zero]
      refine WG.neqN rfl _ _ rfl rfl rfl false (by simp) ?_
      simp only [Act.put, List.setIfInBounds_toArray, List.set_cons_succ, List.set_cons_zero]
      refine WG.nil ?_
      intro w5 B5
      have BN := Below.then HB.out B5
      clear HX HY
      go_wp2
      go_roundw
      case rel => exact ⟨k + 1, by omega, by go_num, BN⟩
      case measure => simp [intOf]; omega
    · have e : k = n := by omega
      subst e
      have hki : ¬ ((k : Int) < k) := by omega
      go_wp2
      go_ret
      exact ⟨rfl, HB.out⟩
theorem lk_map (f : RK → Int) (d : Int) : ∀ (l : List RK) (r : RK), r ∈ l → lkF l (l.map f) d r = f r
  | [], r, h => by simp at h
  | x :: l, r, h => by
    rw [List.map_cons]
    unfold lkF
    by_cases e : x = r
    · rw [if_pos e, e]
    · rw [if_neg e]
      exact lk_map f d l r (by rcases List.mem_cons.1 h with h | h; exact absurd h.symm e; exact h)
theorem ev_congr {v1 v2 : RK → Int} : ∀ (t : Tr), (∀ th nm v, InT th nm v t → v1 (rkOf th nm) = v2 (rkOf th nm)) → t.ev v1 = t.ev v2
  | .tru, _ => rfl
  | .is th nm v, h => by unfold Tr.ev; rw [h th nm v rfl]
  | .not t, h => by unfold Tr.ev; rw [ev_congr t h]
  | .and x y, h => by unfold Tr.ev; rw [ev_congr x (fun a b c k => h a b c (.inl k)), ev_congr y (fun a b c k => h a b c (.inr k))]
  | .or x y, h => by unfold Tr.ev; rw [ev_congr x (fun a b c k => h a b c (.inl k)), ev_congr y (fun a b c k => h a b c (.inr k))]
theorem hd_congr {v1 v2 : RK → Int} {ns : List Nd} (h : ∀ r ∈ (refsF ns).map unN, v1 r = v2 r) : hdB v1 ns = hdB v2 ns := by
  unfold hdB
  cases ht : treeOf nmB ns with
  | none => rfl
  | some t =>
    by_cases hz : checkF nmB ns = 0
    · simp only [if_pos hz]
      exact ev_congr t fun th nm v k => h _ (refs_ask hz t ht th nm v k)
    · simp only [if_neg hz]
theorem grown_refl (w : World) (r : Option Nat) : w.grownBy w r := ⟨rfl, rfl, rfl, Nat.le_refl _, fun _ _ _ => rfl⟩
theorem grown_comp {w w1 w2 : World} {r r1 : Option Nat} (h : w.grownBy w1 r) (h1 : w1.grownBy w2 r1) (hr : r1 = r ∨ ∃ g, r1 = some g ∧ w.heap.size ≤ g) : w.grownBy w2 r :=
  ⟨h1.os.trans h.os, h1.tape.trans h.tape, h1.output.trans h.output, Nat.le_trans h.size h1.size, fun k hk hne => (h1.block k (Nat.lt_of_lt_of_le hk h.size) (fun e => by
    rcases hr with hr | ⟨g, hg, hgs⟩
    · exact hne (e.trans hr)
    · rw [hg] at e; injection e with e; omega)).trans (h.block k hk hne)⟩
theorem grown_of_below {w w' : World} {r : Option Nat} (h : Below w.heap.size w w') : w.grownBy w' r := ⟨h.os, h.tape, h.output, h.size, fun k hk _ => h.block k hk⟩
theorem grown_of_upd {w w' : World} {g : Nat} (U : Upd w w' g) : w.grownBy w' (some g) := ⟨U.os, U.tape, U.output, Nat.le_of_eq U.size.symm, fun k _ hne => U.block k (fun e => hne (by rw [e]))⟩
theorem grown_of_one {w w' : World} {b : Nat} (h : One w w' b) : w.grownBy w' (some b) := ⟨h.os, h.tape, h.output, h.size, fun k hk hne => h.block k hk (fun e => hne (by rw [e]))⟩
/-- Where the law's own things lie apart from a block. -/
structure Apart (w : World) (g bS bw : Nat) (vb : Value) (aw : Option Addr) (k : Nat) : Prop where
  lo : w.heap.size ≤ k
  g : k ≠ g
  S : k ≠ bS
  w : k ≠ bw
  b : vb.ownBlock ≠ some k
  a : ∀ b o, aw = some ⟨b, o, none⟩ → b ≠ k
structure AskW (w W : World) (ns : List Nd) (g bS bw bs : Nat) (vb : Value) (aw : Option Addr) (cw n : Nat) (L : List NK) (st : List Value) : Prop where
  B : Below w.heap.size w W
  g : IsS W g 46 (cellsL (ns ++ [n77]))
  b : W.ownsRow w.heap.size 39 2 vb n (flatR L)
  w : W.cell? ⟨bw, 0, none⟩ = some (.slice aw n cw)
  ws : Seg W aw (flatR L)
  S : IsS W bS 27 st
  s : IsS W bs 4 [.bool false]
theorem isS_by {W W' : World} {k t : Nat} {cs : List Value} {r : Option Nat} (h : IsS W k t cs) (hg : W.grownBy W' r) (hr : r ≠ some k) : IsS W' k t cs := (hg.block k h.lt (fun e => hr e.symm)).trans h
theorem seg_by {W W' : World} {a : Option Addr} {cs : List Value} {r : Option Nat} (h : Seg W a cs) (hg : W.grownBy W' r) (hr : ∀ b o, a = some ⟨b, o, none⟩ → r ≠ some b) : Seg W' a cs := fun j v hv => by
  obtain ⟨b, o, e, h2, h3⟩ := h j v hv
  refine ⟨b, o, e, Nat.lt_of_lt_of_le h2 hg.size, (World.cell?_of_block (hg.block b h2 (fun e2 => hr b o e e2.symm))).trans h3⟩
theorem own_by {W W' : World} {B t s n : Nat} {v : Value} {xs : List Value} {r : Option Nat} (h : W.ownsRow B t s v n xs) (hg : W.grownBy W' r) (hr : ∀ k, r = some k → v.ownBlock ≠ some k) : W'.ownsRow B t s v n xs :=
  own_same h fun k hk => hg.block k (h.lt k hk).2 (fun e => hr k e.symm hk)
theorem below_by {w W W' : World} {r : Option Nat} (h : Below w.heap.size w W) (hg : W.grownBy W' r) (hr : ∀ k, r = some k → w.heap.size ≤ k) : Below w.heap.size w W' :=
  ⟨hg.os.trans h.os, hg.tape.trans h.tape, hg.output.trans h.output, Nat.le_trans h.size hg.size, fun k hk => (hg.block k (Nat.lt_of_lt_of_le hk h.size) (fun e => by have := hr k e.symm; omega)).trans (h.block k hk)⟩
section
variable {w W W' : World} {ns : List Nd} {g bS bw bs : Nat} {vb : Value} {aw : Option Addr} {cw n : Nat} {L : List NK} {st : List Value}
theorem AskW.grown (h : AskW w W ns g bS bw bs vb aw cw n L st) (hB : Below W.heap.size W W') : AskW w W' ns g bS bw bs vb aw cw n L st :=
  ⟨Below.then h.B hB, h.g.grown hB, own_below h.b hB, cell_grow h.w hB, h.ws.below hB, h.S.grown hB, h.s.grown hB⟩
theorem AskW.by (h : AskW w W ns g bS bw bs vb aw cw n L st) {r : Option Nat} (hg : W.grownBy W' r) (hr : ∀ k, r = some k → Apart w g bS bw vb aw k) (hs : IsS W' bs 4 [.bool false]) : AskW w W' ns g bS bw bs vb aw cw n L st :=
  ⟨below_by h.B hg fun k e => (hr k e).lo, isS_by h.g hg fun e => (hr _ e).g rfl, own_by h.b hg fun k e => (hr k e).b,
   (World.cell?_of_block (hg.block bw (World.block_lt_of_cell? W _ h.w) (fun e => (hr bw e.symm).w rfl))).trans h.w,
   seg_by h.ws hg fun b o e e2 => (hr b e2).a b o e rfl, isS_by h.S hg fun e => (hr _ e).S rfl, hs⟩
end
theorem seg_lt {w : World} {a : Option Addr} {cs : List Value} (h : Seg w a cs) (hne : cs ≠ []) (b o : Nat) (e : a = some ⟨b, o, none⟩) : b < w.heap.size := by
  cases cs with
  | nil => exact absurd rfl hne
  | cons v cs =>
    obtain ⟨b', o', e', h2, _⟩ := h 0 v rfl
    rw [e] at e'; cases e'; exact h2
theorem parts {w : World} {z1 z2 z3 z4 g bS bw bs : Nat} {va vb : Value} {aw : Option Addr} (h0 : bS = w.heap.size) (h1 : bS < g) (h2 : g < z1) (h12 : z1 ≤ z2) (h23 : z2 ≤ z3) (h34 : z3 ≤ z4)
    (hA : ∀ k, va.ownBlock = some k → z1 ≤ k ∧ k < z2) (hB : ∀ k, vb.ownBlock = some k → z2 ≤ k ∧ k < z3) (hW : ∀ b o, aw = some ⟨b, o, none⟩ → z3 ≤ b ∧ b < z4) (h5 : z4 ≤ bw) (h6 : bw < bs) :
    (∀ k, va.ownBlock = some k → Apart w g bS bw vb aw k ∧ k ≠ bs) ∧ Apart w g bS bw vb aw bs := by
  constructor
  · intro k hk
    have := hA k hk
    exact ⟨⟨by omega, by omega, by omega, by omega, fun e => by have := hB k e; omega, fun b o e => by have := hW b o e; omega⟩, by omega⟩
  · exact ⟨by omega, by omega, by omega, by omega, fun e => by have := hB bs e; omega, fun b o e => by have := hW b o e; omega⟩
theorem own_opn2 {W : World} {B t n : Nat} {v : Value} {xs : List Value} (h : W.ownsRow B t 2 v n xs) (h0 : 0 < n) : ∃ g c cs, v = .slice (some ⟨g, 0, none⟩) n c ∧ B ≤ g ∧ IsS W g t cs ∧ n ≤ c ∧ c ≤ maxLen ∧ cs.length = c * 2 := by
  rcases h.2 with ⟨h1, h2⟩ | ⟨g, cap, cur, hv, hg, hh, hc, hm, hs, ht⟩
  · omega
  · exact ⟨g, cap, cur.toList, hv, hg, by unfold IsS; rw [hh], hc, hm, by simpa using hs⟩
theorem own_cls2 {w : World} {B g t n c : Nat} {cs : List Value} (hg : B ≤ g) (I : IsS w g t cs) (hc : n ≤ c) (hm : c ≤ maxLen) (hs : cs.length = c * 2) : w.ownsRow B t 2 (.slice (some ⟨g, 0, none⟩) n c) n (cs.take (n * 2)) := by
  refine ⟨?_, .inr ⟨g, c, cs.toArray, rfl, hg, I, hc, hm, by simp [hs], by simp⟩⟩
  rw [List.length_take]; omega
end Go.Proofs.Ytcmkoffamolgmaa

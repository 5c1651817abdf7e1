/- Several texts in one: P0, P1, CS, P2. -/
import Derived.Test.YtopnbemodlcknaaDoorCA
import Derived.Test.YtopnbemodlcknaaDoorLxK0
import Derived.Deep.AppendLies
import Derived.Laws.AppendOwn
import Derived.Lib.LazyBuf
import Derived.Test.YtopnbemodlcknaaDoorLxA2
/- What Parse says of a text's tokens: plain mathematics. -/
namespace Go.Proofs.YtopnbemodlcknaaDoor
open Go Go.RowKit M
set_option linter.unusedSimpArgs false
set_option linter.unusedVariables false

def txB (t : Lx.Tok) : ByteArray := ⟨t.text.toArray⟩
/-- A token that is no edge's name. -/
def badT (t : Lx.Tok) : Bool := decide (nuF (txB t) = 18) || decide (t.kind ≠ 1)
def badTP (ts : List Lx.Tok) (k : Nat) : Bool := badT (ts.getD k Lx.noTok)
/-- The first such token's place, or the end. -/
def badTN (ts : List Lx.Tok) : Nat := fst' (badTP ts) ts.length 0
def tokAt (ts : List Lx.Tok) (k : Nat) : Lx.Tok := ts.getD k Lx.noTok
theorem tokAt_some {ts : List Lx.Tok} {k : Nat} {t : Lx.Tok} (h : ts[k]? = some t) : tokAt ts k = t := by unfold tokAt; rw [List.getD_eq_getElem?_getD, h]; rfl
theorem badT_hit {ts : List Lx.Tok} {k : Nat} {t : Lx.Tok} (h : ts[k]? = some t) (hb : badT t = true) : badTP ts k = true := by unfold badTP; rw [List.getD_eq_getElem?_getD, h]; exact hb
theorem badT_miss {ts : List Lx.Tok} {k : Nat} {t : Lx.Tok} (h : ts[k]? = some t) (hb : badT t = false) : badTP ts k = false := by unfold badTP; rw [List.getD_eq_getElem?_getD, h]; exact hb
/-- How the reading ends. -/
def stR (st : Lx.LS) (ts : List Lx.Tok) : Lx.LS :=
  match st with
  | .ok p => if badTN ts < ts.length then .bad (tokAt ts (badTN ts)).line (tokAt ts (badTN ts)).col 260 else .ok p
  | s => s
/-- The edges that are read. -/
def txR (st : Lx.LS) (ts : List Lx.Tok) : List ByteArray :=
  match st with
  | .ok _ => if badTN ts < ts.length then [] else ts.map txB
  | _ => []
theorem txR_len (st : Lx.LS) (ts : List Lx.Tok) : (txR st ts).length ≤ ts.length := by
  unfold txR
  split
  · split
    · exact Nat.zero_le _
    · rw [List.length_map]; exact Nat.le_refl _
  · exact Nat.zero_le _
end Go.Proofs.YtopnbemodlcknaaDoor
/- Edges: the names, in a row of one's own. -/
namespace Go.Proofs.YtopnbemodlcknaaDoor
open Go Go.RowKit M
set_option linter.unusedSimpArgs false
set_option linter.unusedVariables false

def r18 : List Nat := List.range 18
theorem r18_len : r18.length = 18 := rfl
theorem r18_at {k : Nat} (h : k < 18) : r18[k]? = some k := by
  rcases lt18 h with rfl | rfl | rfl | rfl | rfl | rfl | rfl | rfl | rfl | rfl | rfl | rfl | rfl | rfl | rfl | rfl | rfl | rfl <;> rfl
theorem r18_nms : r18.map nmF = NMS := rfl
set_option maxRecDepth 100000 in
set_option maxHeartbeats 4000000 in
theorem edges_any (w : World) (hE : EdAt w) :
    Calls Tryd.prog 4 #[] w fun e w' => ∃ v, e = .returned v ∧ w'.ownsRow w.heap.size 9 1 v 18 (NMS.flatMap strE) ∧ Below w.heap.size w w' := by
  have HE : Hid (EdAt w) := hE
  clear hE
  go_enter Tryd.func4, Tryd.ntmps4
  have ta : True := trivial
  have tb : True := trivial
  go_wp2_with (first
    | (clear ta; refine wpList_make1 eStr rfl rfl _ _ rfl 18 (by decide) rfl rfl ?_; intro W1 b F1 I1; have HB1 : Hid (Below w.heap.size w W1) := F_b F1; have hb : w.heap.size ≤ b := Nat.le_of_eq F1.at'.symm; have hr := (HE.out.below HB1.out).1; clear F1)
    | (clear tb; refine wpList_load_mid rfl _ _ rfl 1 0 rfl EDL _ hr Tryd.underlying39 rfl infoEdges ?_))
  have HI1 : Hid (IsS W1 b 9 (partS r18 0 18)) := I1
  clear I1 hr
  go_loopw [6] (fun i wr => ∃ k : Nat, k ≤ 18 ∧ i = .int .i64 (k : Int) ∧ Hid (Below w.heap.size w wr) ∧ Hid (IsS wr b 9 (partS r18 k 18))) (fun i _ => 18 - (intOf i).toNat)
  case atStart => exact ⟨0, Nat.zero_le _, rfl, HB1, HI1⟩
  case round =>
    obtain ⟨k, hk, rfl, HB, HI⟩ := hrel
    by_cases hlt : k < 18
    · have hki : (k : Int) < 18 := by omega
      have hix := fun W => idx_edge hlt W
      have HP : Hid ((partS r18 k 18).set k (.string (nmF k)) = partS r18 (k + 1) 18) := partS_set r18_len hlt (r18_at hlt)
      have hpl : k < (partS r18 k 18).length := by rw [partS_len r18_len (by omega)]; exact hlt
      have I := HI.out
      have HBS : Hid (w.heap.size ≤ wr.heap.size) := HB.out.size
      have hlb : Hid (b < wr.heap.size) := I.lt
      have tb : True := trivial
      have tc : True := trivial
      generalize partS r18 k 18 = PS at *
      go_wp2_with (first
        | (clear tb; refine wpList_allocS rfl _ rfl _ zeroEdge ?_; intro W2 b2 F2 I2; have hb2 : Hid (wr.heap.size ≤ b2) := Nat.le_of_eq F2.at'.symm; have B2 := F2.trans HB.out HB.out.size; have J2 := I.fresh F2; clear F2)
        | (clear tc; refine wpList_storeW rfl _ _ _ rfl rfl (edL k) rfl I2 rfl infoEdge (ed_one k) ?_; intro W3 U3 I3; have B3 := U3.trans B2 (Nat.le_trans HBS.out hb2.out); have J3 := J2.upd U3 (by have := hb2.out; have := hlb.out; omega); clear U3 I2 B2 J2)
        | (refine wpList_loadO rfl _ _ rfl rfl I3 (v := .string (nmF k)) rfl (fun w h => ld9 w h) ?_)
        | (refine wpList_store1 rfl _ _ _ rfl rfl (.string (nmF k)) rfl J3 hpl info9 rfl ?_; intro W4 U4 J4; have B4 := U4.trans B3 hb))
      go_roundw
      case rel => exact ⟨k + 1, by omega, by go_num, B4, by rw [← HP.out]; exact J4⟩
      case measure => simp [intOf]; omega
    · have e : 18 = k := by omega
      subst e
      have I := HI.out
      rw [partS_all r18_len, r18_nms] at I
      go_wp2
      go_ret
      exact ⟨_, rfl, own_is I hb rfl (by decide), HB.out⟩
end Go.Proofs.YtopnbemodlcknaaDoor
/- The law's helpers: lent, same of the same, back, spoil, num. -/
namespace Go.Proofs.YtopnbemodlcknaaDoor
open Go Go.RowKit M
set_option linter.unusedSimpArgs false
set_option linter.unusedVariables false

theorem own_cls {w : World} {B g t n c : Nat} {cs xs : List Value} (hg : B ≤ g) (I : IsS w g t cs) (ht : cs.take n = xs) (hc : n ≤ c) (hm : c ≤ maxLen) (hs : cs.length = c) : w.ownsRow B t 1 (.slice (some ⟨g, 0, none⟩) n c) n xs := by
  refine ⟨?_, .inr ⟨g, c, cs.toArray, rfl, hg, I, hc, hm, by simp [hs], by rw [Nat.mul_one]; simpa using ht⟩⟩
  rw [← ht, List.length_take]; omega

def hldr : ByteArray := ⟨#[104, 111, 108, 100, 101, 114]⟩
/-- Names that were lent: a row with its holder's name behind the end. -/
def Lnt (w : World) (g : Nat) (L : List ByteArray) : Prop := g < w.heap.size ∧ Seg w (some ⟨g, 0, none⟩) (L.flatMap strE ++ [.string hldr])
theorem Lnt.below {w W : World} {g : Nat} {L : List ByteArray} (h : Lnt w g L) (hB : Below w.heap.size w W) : Lnt W g L := ⟨Nat.lt_of_lt_of_le h.1 hB.size, h.2.below hB⟩
theorem Lnt.seg {w : World} {g : Nat} {L : List ByteArray} (h : Lnt w g L) : Seg w (some ⟨g, 0, none⟩) (L.flatMap strE) := fun j v hv => h.2 j v (by rw [List.getElem?_append_left (List.getElem?_eq_some_iff.1 hv).1]; exact hv)
theorem Lnt.last {w : World} {g n : Nat} {L : List ByteArray} (h : Lnt w g L) (hn : L.length = n) : w.cell? ⟨g, n, none⟩ = some (.string hldr) := by
  obtain ⟨b, o, e, _, h2⟩ := h.2 n (.string hldr) (by rw [List.getElem?_append_right (by rw [str_len]; omega), str_len, show n - L.length * 1 = 0 by omega]; rfl)
  cases e
  rwa [Nat.zero_add] at h2
theorem Lnt.grown {w W : World} {g : Nat} {L : List ByteArray} {r : Option Nat} (h : Lnt w g L) (hg : w.grownBy W r) (hr : r ≠ some g) : Lnt W g L :=
  ⟨Nat.lt_of_lt_of_le h.1 hg.size, fun j v hv => by
    obtain ⟨b, o, e, h1, h2⟩ := h.2 j v hv
    cases e
    exact ⟨g, 0, rfl, Nat.lt_of_lt_of_le h1 hg.size, hg.cell h2 (fun e => hr e.symm)⟩⟩
theorem grown_refl (w : World) (r : Option Nat) : w.grownBy w r := ⟨rfl, rfl, rfl, Nat.le_refl _, fun _ _ _ => rfl⟩
theorem grown_comp {w w1 w2 : World} {r r1 : Option Nat} (h : w.grownBy w1 r) (h1 : w1.grownBy w2 r1) (hr : r1 = r ∨ ∃ g, r1 = some g ∧ w.heap.size ≤ g) : w.grownBy w2 r :=
  ⟨h1.os.trans h.os, h1.tape.trans h.tape, h1.output.trans h.output, Nat.le_trans h.size h1.size, fun k hk hne => (h1.block k (Nat.lt_of_lt_of_le hk h.size) (fun e => by
    rcases hr with hr | ⟨g, hg, hgs⟩
    · exact hne (e.trans hr)
    · rw [hg] at e; injection e with e; omega)).trans (h.block k hk hne)⟩
theorem grown_of_below {w w' : World} {r : Option Nat} (h : Below w.heap.size w w') : w.grownBy w' r := ⟨h.os, h.tape, h.output, h.size, fun k hk _ => h.block k hk⟩
theorem grown_of_upd {w w' : World} {g : Nat} (U : Upd w w' g) : w.grownBy w' (some g) := ⟨U.os, U.tape, U.output, Nat.le_of_eq U.size.symm, fun k _ hne => U.block k (fun e => hne (by rw [e]))⟩
theorem own_openC {W : World} {B t s n : Nat} {v : Value} {xs : List Value} (h : W.ownsRow B t s v n xs) (h0 : 0 < n) : ∃ g c, v = .slice (some ⟨g, 0, none⟩) n c ∧ n ≤ c ∧ B ≤ g := by
  rcases h.2 with ⟨h1, h2⟩ | ⟨g, cap, cur, hv, hg, hh, hc, _⟩
  · omega
  · exact ⟨g, cap, hv, hc, hg⟩
section
variable {w : World} {ops : Array Oper} {rest : List Oper} {op : Oper} {a : Act} {Q : Exit → Act → World → Prop}
/-- An append of names, as many as there may be. -/
theorem wpList_appB (hgd : op.guard = none) (s x : Operand) (ho : op.op = .call { callee := .builtin .append, args := #[s, x], argTypes := #[22, 22] })
    (B : Nat) (v : Value) (n : Nat) (xs : List Value) (hs : a.eval s = v) (hown : w.ownsRow B 9 1 v n xs) (u : Value) (m : Nat) (cs : List Value) (hx : a.eval x = u) (hu : RowV w u m cs) (hl : cs.length = m * 1) (h1 : ∀ x ∈ cs, x.oneCell' = true) (hn : n + m ≤ 8796093022208) (hB : B ≤ w.heap.size)
    (h : ∀ v' w', w'.ownsRow B 9 1 v' (n + m) (xs ++ cs) → w.grownBy w' v.ownBlock → wpList Tryd.prog ops Q rest (a.put op.dst v') w') : wpList Tryd.prog ops Q (op :: rest) a w := by
  refine wpList_plain hgd fun K hK => ?_
  obtain ⟨i0, hi, hz, hsz, hby⟩ := eStr.info
  obtain ⟨ad, c, rfl, hT, hnil⟩ := hu
  cases ad with
  | none =>
    have hm : m = 0 := by
      cases m with
      | zero => rfl
      | succ m =>
        have : 0 < cs.length := by rw [hl]; omega
        obtain ⟨_, _, e, _⟩ := hT 0 cs[0] (List.getElem?_eq_getElem this)
        cases e
    subst hm
    have hcs : cs = [] := List.length_eq_zero_iff.1 (by rw [hl])
    subst hcs
    rw [hnil rfl] at hx
    unfold Oper.wp
    rw [exec_app s x ho hs hx (run_append_owned_none (P := Tryd.prog) (w := w) B 22 op.type 9 i0 1 eStr.und hi v n xs hown)]
    exact hK _ _ (h v w (by simpa using hown) ⟨rfl, rfl, rfl, Nat.le_refl _, fun _ _ _ => rfl⟩)
  | some y =>
    have hnews : ∀ j z, cs[j]? = some z → w.cell? (y.add j) = some z := fun j z hj => by
      obtain ⟨b, o, e, _, hc⟩ := hT j z hj
      cases e
      rw [Addr.add_mid]
      exact hc
    obtain ⟨v', w', hr, ho', hg, _⟩ := run_append_own (P := Tryd.prog) w B 22 op.type 9 i0 (.string ⟨#[]⟩) 1 16 eStr.und hi hz hsz hby rfl (by decide) v n xs hown y m c cs hl hnews h1 (by unfold maxLen; omega) (by omega) hB
    unfold Oper.wp
    rw [exec_app s x ho hs hx hr]
    exact hK _ _ (h v' w' ho' hg)
end
set_option maxRecDepth 100000 in
set_option maxHeartbeats 4000000 in
theorem same_any (L : List ByteArray) (n c1 c2 : Nat) (a1 a2 : Option Addr) (hl : L.length = n) (hn : n ≤ 8796093021952) (w : World) (h1 : Seg w a1 (L.flatMap strE)) (h2 : Seg w a2 (L.flatMap strE)) :
    Calls Tryd.prog 5 #[.slice a1 n c1, .slice a2 n c2] w fun e w' => e = .returned (.bool true) ∧ Below w.heap.size w w' := by
  have H1 : Hid (Seg w a1 (L.flatMap strE)) := h1
  have H2 : Hid (Seg w a2 (L.flatMap strE)) := h2
  have HL : Hid (L.length = n) := hl
  have hnI : (n : Int) ≤ 8796093021952 := by omega
  have hnn : ((n : Int) != (n : Int)) = false := by simp
  clear h1 h2 hl
  go_enter Tryd.func5, Tryd.ntmps5
  go_wp2
  go_loopw [5] (fun i wr => ∃ k : Nat, k ≤ n ∧ i = .int .i64 (k : Int) ∧ Hid (Below w.heap.size w wr)) (fun i _ => n - (intOf i).toNat)
  case atStart => exact ⟨0, Nat.zero_le _, rfl, Below.refl _ _⟩
  case round =>
    obtain ⟨k, hk, rfl, HB⟩ := hrel
    by_cases hlt : k < n
    · have hki : (k : Int) < n := by omega
      obtain ⟨x, hx⟩ : ∃ e, L[k]? = some e := ⟨_, List.getElem?_eq_getElem (by rw [HL.out]; exact hlt)⟩
      obtain ⟨b1, o1, rfl, hb1, ca⟩ := seg_cell (H1.out.below HB.out) (str_at hx)
      obtain ⟨b2, o2, rfl, hb2, cb⟩ := seg_cell (H2.out.below HB.out) (str_at hx)
      have hd : (x.toList != x.toList) = false := by simp
      clear hx
      go_wp2
      refine grow_allW (by kernel_rfl) (by kernel_rfl) ?_
      refine WG.put rfl (v := .slice (some ⟨b1, o1, none⟩) n c1) (fun w => by first | rfl | (go_simp; done) | (simp [go_sem]; done) | (simp [execOp, go_sem]; done)) ?_
      simp only [Act.put, List.setIfInBounds_toArray, List.set_cons_succ, List.set_cons_zero]
      refine WG.put rfl (v := .int .i64 (k : Int)) (fun w => by first | rfl | (go_simp; done) | (simp [go_sem]; done) | (simp [execOp, go_sem]; done)) ?_
      simp only [Act.put, List.setIfInBounds_toArray, List.set_cons_succ, List.set_cons_zero]
      refine WG.put rfl (v := .pointer (some ⟨b1, o1 + k, none⟩)) (fun w => by first | rfl | (go_simp; done) | (simp [go_sem, hki, hlt]; done) | (simp [execOp, go_sem, hki, hlt]; done)) ?_
      simp only [Act.put, List.setIfInBounds_toArray, List.set_cons_succ, List.set_cons_zero]
      refine WG.cell rfl 9 _ rfl rfl ca (fun w h => by simp [go_sem, h]) ?_
      simp only [Act.put, List.setIfInBounds_toArray, List.set_cons_succ, List.set_cons_zero]
      refine WG.put rfl (v := .slice (some ⟨b2, o2, none⟩) n c2) (fun w => by first | rfl | (go_simp; done) | (simp [go_sem]; done) | (simp [execOp, go_sem]; done)) ?_
      simp only [Act.put, List.setIfInBounds_toArray, List.set_cons_succ, List.set_cons_zero]
      refine WG.put rfl (v := .int .i64 (k : Int)) (fun w => by first | rfl | (go_simp; done) | (simp [go_sem]; done) | (simp [execOp, go_sem]; done)) ?_
      simp only [Act.put, List.setIfInBounds_toArray, List.set_cons_succ, List.set_cons_zero]
      refine WG.put rfl (v := .pointer (some ⟨b2, o2 + k, none⟩)) (fun w => by first | rfl | (go_simp; done) | (simp [go_sem, hki, hlt]; done) | (simp [execOp, go_sem, hki, hlt]; done)) ?_
      simp only [Act.put, List.setIfInBounds_toArray, List.set_cons_succ, List.set_cons_zero]
      refine WG.cell rfl 9 _ rfl rfl cb (fun w h => by simp [go_sem, h]) ?_
      simp only [Act.put, List.setIfInBounds_toArray, List.set_cons_succ, List.set_cons_zero]
      refine WG.put rfl (v := .bool false) (fun w => by first | rfl | (go_simp; done) | (simp [go_sem, hd]; done) | (simp [execOp, go_sem, hd]; done)) ?_
      simp only [Act.put, List.setIfInBounds_toArray, List.set_cons_succ, List.set_cons_zero]
      refine WG.nil ?_
      intro w5 B5
      go_wp2
      go_roundw
      case rel => exact ⟨k + 1, by omega, by go_num, Below.then HB.out B5⟩
      case measure => simp [intOf]; omega
    · have e : k = n := by omega
      subst e
      go_wp2
      go_ret
      exact ⟨rfl, HB.out⟩
theorem own_openI {W : World} {B t n : Nat} {v : Value} {xs : List Value} (h : W.ownsRow B t 1 v n xs) (h0 : 0 < n) : ∃ g c cs, v = .slice (some ⟨g, 0, none⟩) n c ∧ B ≤ g ∧ IsS W g t cs ∧ n ≤ c ∧ c ≤ maxLen ∧ cs.length = c := by
  rcases h.2 with ⟨h1, h2⟩ | ⟨g, cap, cur, hv, hg, hh, hc, hm, hs, ht⟩
  · omega
  · exact ⟨g, cap, cur.toList, hv, hg, by unfold IsS; rw [hh], hc, hm, by simpa using hs⟩
set_option maxRecDepth 100000 in
set_option maxHeartbeats 4000000 in
theorem spoil_any {w : World} {B n : Nat} {v : Value} {xs : List Value} (hown : w.ownsRow B 9 1 v n xs) (hB : B ≤ w.heap.size) (hn : n ≤ 1048576) :
    Calls Tryd.prog 6 #[v] w fun e w' => e = .returned (.tuple #[]) ∧ w.grownBy w' v.ownBlock := by
  obtain ⟨a, c, hv⟩ := own_form hown
  subst hv
  have hnI : (n : Int) ≤ 1048576 := by omega
  have HO : Hid (w.ownsRow B 9 1 (.slice a n c) n xs) := hown
  clear hown
  go_enter Tryd.func6, Tryd.ntmps6
  go_wp2
  go_loopw [2] (fun i wr => ∃ (k : Nat) (ys : List Value), k ≤ n ∧ i = .int .i64 (k : Int) ∧ Hid (wr.ownsRow B 9 1 (.slice a n c) n ys) ∧ w.grownBy wr (Value.slice a n c).ownBlock) (fun i _ => n - (intOf i).toNat)
  case atStart => exact ⟨0, xs, Nat.zero_le _, rfl, HO, grown_refl _ _⟩
  case round =>
    obtain ⟨k, ys, hk, rfl, HOR, GR⟩ := hrel
    by_cases hlt : k < n
    · obtain ⟨g, cap, cs, hv, hg, I, hc, hm, hs⟩ := own_openI HOR.out (by omega)
      cases hv
      have hkb : k < cs.length := by omega
      have hiX : (k : Int) < (n : Int) := by omega
      clear HO HOR
      go_wp2_with (first
        | (refine wpList_store1 rfl 9 _ _ rfl rfl (.string ⟨#[115, 112, 111, 105, 108, 116]⟩) rfl I hkb info9 rfl ?_; intro w3 U3 I3))
      have O3 := own_cls (n := n) hg I3 rfl hc hm (by rw [List.length_set]; exact hs)
      go_roundw
      case rel => exact ⟨k + 1, _, by omega, by go_num, O3, grown_comp GR (grown_of_upd U3) (.inl rfl)⟩
      case measure => simp [intOf]; omega
    · have e : k = n := by omega
      subst e
      clear HO hlt
      go_wp2
      have hz1 := GR.size
      go_loopw [0, 3] (fun u j wr2 => ∃ (q : Nat) (zs : List Value), q ≤ 20 ∧ j = .int .i64 (q : Int) ∧ Hid (wr2.ownsRow B 9 1 u (k + q) zs) ∧ w.grownBy wr2 (Value.slice a k c).ownBlock ∧ Hid (u.ownBlock = (Value.slice a k c).ownBlock ∨ ∃ g, u.ownBlock = some g ∧ w.heap.size ≤ g)) (fun _ j _ => 20 - (intOf j).toNat)
      case atStart => exact ⟨0, ys, Nat.zero_le _, rfl, HOR, GR, .inl rfl⟩
      case round =>
        obtain ⟨q, zs, hq, rfl, HO2, G2, HW⟩ := hrel
        by_cases hlt2 : q < 20
        · obtain ⟨a3, c3, hv3⟩ := own_form HO2.out
          subst hv3
          have hz2 := G2.size
          obtain ⟨i0, hi0, hz0, hs0, hy0⟩ := eStr.info
          clear HOR
          have t1 : True := trivial
          go_wp2_with (first
            | (clear t1; refine wpList_build1E eStr rfl _ rfl (.string ⟨#[103, 114, 111, 119, 110]⟩) rfl rfl ?_; intro w6 b6 F6 I6; have O6 := own_below HO2.out (F_b F6); have hz6 := (F_b F6).size)
            | (at_builtin; refine wpList_append_lies _ rfl _ _ _ rfl B 9 i0 (.string ⟨#[]⟩) 1 16 eStr.und hi0 hz0 hs0 hy0 rfl (by decide) _ (k + q) _ rfl O6 _ 1 1 [.string ⟨#[103, 114, 111, 119, 110]⟩] rfl rfl (fun j u h => by rw [Addr.add_mid, Nat.zero_add]; exact (I6.cell j).trans h) (str_one1 _) (by decide) (by unfold maxLen; omega) (by omega) (by omega) _ rfl ?_; intro g7 c7 w7 O7 G7 W7 L7))
          have G8 : w.grownBy w7 (Value.slice a k c).ownBlock := grown_comp (grown_comp G2 (grown_of_below (r := (Value.slice a k c).ownBlock) (F_b F6)) (.inl rfl)) G7 HW.out
          have W8 : (Value.slice (some ⟨g7, 0, none⟩) (k + q + 1) c7).ownBlock = (Value.slice a k c).ownBlock ∨ ∃ g, (Value.slice (some ⟨g7, 0, none⟩) (k + q + 1) c7).ownBlock = some g ∧ w.heap.size ≤ g := by
            rcases W7 with h | h
            · show some g7 = _ ∨ ∃ g, some g7 = some g ∧ _
              rw [← h]; exact HW.out
            · exact .inr ⟨g7, rfl, by omega⟩
          go_roundw
          case rel => exact ⟨q + 1, _, by omega, by go_num, O7, G8, W8⟩
          case measure => simp [intOf]; omega
        · obtain ⟨a3, c3, hv3⟩ := own_form HO2.out
          subst hv3
          clear HOR
          have e : q = 20 := by omega
          subst e
          go_wp2
          go_end0
          exact ⟨rfl, G2⟩
end Go.Proofs.YtopnbemodlcknaaDoor
/- Parse, of the program. -/
namespace Go.Proofs.YtopnbemodlcknaaDoor
open Go Go.RowKit M
set_option linter.unusedSimpArgs false
set_option linter.unusedVariables false

theorem rd_notR (st : Lx.LS) (t : Lx.Tok) : st.rd ≠ some (.tok t) := by cases st <;> simp [Lx.LS.rd]
theorem own_seg {W : World} {B t n k c : Nat} {a : Option Addr} {cs : List Value} (h : W.ownsRow B t k (.slice a n c) n cs) : Seg W a cs := by
  obtain ⟨a', c', e, hs, _⟩ := own_row h
  cases e; exact hs
/-- What Parse answers. -/
def PaA (st : Lx.LS) (ts : List Lx.Tok) (w : World) (e : Ending) (w' : World) : Prop :=
  ∃ v ev, e = .returned (.tuple #[v, ev]) ∧ w'.ownsRow w.heap.size 9 1 v (txR st ts).length ((txR st ts).flatMap strE) ∧ Lx.ErrI (stR st ts).rd ev w' ∧ Below w.heap.size w w'
theorem tok_at : ∀ {ts : List Lx.Tok} {k : Nat} {t : Lx.Tok}, ts[k]? = some t → ∀ (e : Nat) (v : Value), (Lx.tokL t)[e]? = some v → (Lx.cellsT ts)[k * 7 + e]? = some v
  | [], k, t, h, e, v, hv => by simp at h
  | x :: ts, 0, t, h, e, v, hv => by
    simp at h; subst h
    have he := (List.getElem?_eq_some_iff.1 hv).1
    show (Lx.tokL x ++ _)[0 * 7 + e]? = _
    rw [Nat.zero_mul, Nat.zero_add, List.getElem?_append_left he]; exact hv
  | x :: ts, k + 1, t, h, e, v, hv => by
    show (Lx.tokL x ++ Lx.cellsT ts)[(k + 1) * 7 + e]? = _
    rw [List.getElem?_append_right (by show 7 ≤ _; omega), show (k + 1) * 7 + e - (Lx.tokL x).length = k * 7 + e by show (k + 1) * 7 + e - 7 = _; omega]
    exact tok_at (by simpa using h) e v hv
theorem seg_tok {w : World} {a : Option Addr} {ts : List Lx.Tok} (h : Seg w a (Lx.cellsT ts)) {k : Nat} {t : Lx.Tok} (hk : ts[k]? = some t) : ∃ b o, a = some ⟨b, o, none⟩ ∧ b < w.heap.size ∧ w.rangeAt b (o + k * 7) (Lx.tokL t) := by
  obtain ⟨b, o, e1, h1, _⟩ := h (k * 7 + 0) _ (tok_at hk 0 _ rfl)
  refine ⟨b, o, e1, h1, fun j v hv => ?_⟩
  obtain ⟨b', o', e2, _, h3⟩ := h (k * 7 + j) v (tok_at hk j v hv)
  rw [e1] at e2
  cases e2
  rw [← Nat.add_assoc] at h3
  exact h3
theorem seg_upd {w W W' : World} {a : Option Addr} {cs : List Value} {b : Nat} (h : Seg w a cs) (F : Fresh w W b) (U : Upd W W' b) : Seg W' a cs := fun j v hv => by
  obtain ⟨g, o, e, hl, hc⟩ := h j v hv
  have hne : g ≠ b := by have := F.at'; omega
  refine ⟨g, o, e, by rw [U.size]; exact Nat.lt_of_lt_of_le hl (F_b F).size, ?_⟩
  exact (World.cell?_of_block (U.block g hne)).trans (((F_b F).cell (p := ⟨g, o + j, none⟩) hl).trans hc)
theorem infoTok : (Tryd.prog.info? 44).map (·.size) = some 7 := by kernel_rfl
theorem zeroTok (w : World) : (zeroValue 44).run Tryd.prog w = .ok (.agg (Lx.tokL Lx.noTok).toArray) w := by
  have h : Tryd.t44.zero = some (.agg (Lx.tokL Lx.noTok).toArray) := by kernel_rfl
  simp [go_sem, zeroValue, h]
set_option maxRecDepth 100000 in
set_option maxHeartbeats 8000000 in
theorem cparse_any (s : ByteArray) (hs : s.size < 4611686018427387904) (ts : List Lx.Tok) (st : Lx.LS) (hr : Lx.rounds s.data.toList = ts.map Lx.Rd.tok ++ st.rd.toList) (hlen : ts.length ≤ 1048576) (w : World) (hE : EdAt w) :
    Calls Tryd.prog 7 #[.string s] w fun e w' => PaA st ts w e w' := by
  have cA : Hid (∀ W, Calls Tryd.prog 10 #[.string s] W fun e w' => Lx.AllAns ts st.rd e W w' ∧ Below W.heap.size W w') := fun W => Lx.all_any s hs ts st.rd hr (rd_notR st) hlen W
  have HE : Hid (EdAt w) := hE
  obtain ⟨A, hA⟩ : ∃ A, PaA st ts w = A := ⟨_, rfl⟩
  have hbadS : ∀ r, st.rd = some r → txR st ts = [] ∧ (stR st ts).rd = some r := by
    intro r h
    cases st with
    | ok p => cases h
    | bad x y e => exact ⟨rfl, h⟩
    | long => exact ⟨rfl, h⟩
  have HA0 : Hid (∀ r ev w', st.rd = some r → Lx.ErrV r ev w' → Below w.heap.size w w' → A (.returned (.tuple #[.slice none 0 0, ev])) w') := by
    rw [← hA]; intro r ev w' h1 h2 h3
    obtain ⟨e1, e2⟩ := hbadS r h1
    exact ⟨_, _, rfl, by rw [e1]; exact own_nil _ _ _ _, by rw [e2]; exact h2, h3⟩
  have HA1 : Hid (∀ t g w', st.rd = none → ts[badTN ts]? = some t → IsS w' g 50 (Lx.faultL t.line t.col 260) → Below w.heap.size w w' → A (.returned (.tuple #[.slice none 0 0, .iface 47 (.pointer (some ⟨g, 0, none⟩))])) w') := by
    rw [← hA]; intro t g w' h1 h2 h3 h4
    have hl := (List.getElem?_eq_some_iff.1 h2).1
    cases st with
    | ok p =>
      refine ⟨_, _, rfl, ?_, ?_, h4⟩
      · show w'.ownsRow _ 9 1 _ (if badTN ts < ts.length then [] else _ : List ByteArray).length _
        rw [show txR (.ok p) ts = [] from if_pos hl, if_pos hl]
        exact own_nil _ _ _ _
      · rw [show stR (.ok p) ts = .bad (tokAt ts (badTN ts)).line (tokAt ts (badTN ts)).col 260 from if_pos hl, tokAt_some h2]
        exact ⟨g, rfl, h3⟩
    | bad x y e => cases h1
    | long => cases h1
  have HA2 : Hid (∀ v w', st.rd = none → badTN ts = ts.length → w'.ownsRow w.heap.size 9 1 v ts.length ((ts.map txB).flatMap strE) → Below w.heap.size w w' → A (.returned (.tuple #[v, .nilIface])) w') := by
    rw [← hA]; intro v w' h1 h2 h3 h4
    have hl : ¬ (badTN ts < ts.length) := by omega
    cases st with
    | ok p =>
      refine ⟨_, _, rfl, ?_, ?_, h4⟩
      · rw [show txR (.ok p) ts = ts.map txB from if_neg hl, List.length_map]; exact h3
      · rw [show stR (.ok p) ts = .ok p from if_neg hl]; rfl
    | bad x y e => cases h1
    | long => cases h1
  rw [hA]
  clear hA hE hr hbadS
  obtain ⟨er, hser⟩ : ∃ er, st.rd = er := ⟨_, rfl⟩
  rw [hser] at cA HA0 HA1 HA2
  clear hser
  have ta : True := trivial
  cases er with
  | some r =>
    go_enter Tryd.func7, Tryd.ntmps7
    go_wp2_with (first
      | (clear ta; go_at_call 10; refine (cA.out _).mono ?_; rintro e W1 ⟨⟨ev, rfl, hv⟩, B1⟩; obtain ⟨t, u, rfl, hu⟩ := Lx.errV_some hv))
    exact HA0.out r _ _ rfl hv B1
  | none =>
    obtain ⟨n, hn⟩ : ∃ n, ts.length = n := ⟨_, rfl⟩
    rw [hn] at hlen HA2
    have HN : Hid (ts.length = n) := hn
    have hnI : (n : Int) ≤ 1048576 := by omega
    clear hn
    go_enter Tryd.func7, Tryd.ntmps7
    go_wp2_with (first
      | (clear ta; go_at_call 10; refine (cA.out _).mono ?_; rintro e W1 ⟨⟨v, rfl, hv⟩, B1⟩; rw [HN.out] at hv; obtain ⟨a, c, rfl⟩ := own_form hv))
    have HS : Hid (Seg W1 a (Lx.cellsT ts)) := own_seg hv
    have HB1 : Hid (Below w.heap.size w W1) := B1
    clear hv B1 cA
    go_loopw [6, 21] (fun v6 i wr => ∃ k : Nat, k ≤ n ∧ i = .int .i64 (k : Int) ∧ (∃ a4 c4, v6 = .slice a4 k c4) ∧ Hid (Below W1.heap.size W1 wr) ∧ Hid (wr.ownsRow W1.heap.size 9 1 v6 k (((ts.take k).map txB).flatMap strE)) ∧ Hid (FstAt (badTP ts) n k)) (fun _ i _ => n - (intOf i).toNat)
    case atStart => exact ⟨0, Nat.zero_le _, rfl, ⟨_, _, rfl⟩, Below.refl _ _, own_nil _ _ _ _, FstAt.zero _ _⟩
    case round =>
      obtain ⟨k, hk, rfl, ⟨a4, c4, rfl⟩, HB, HO, HF⟩ := hrel
      by_cases hlt : k < n
      · have hki : (k : Int) < n := by omega
        obtain ⟨t, ht⟩ : ∃ t, ts[k]? = some t := ⟨_, List.getElem?_eq_getElem (by rw [HN.out]; exact hlt)⟩
        obtain ⟨b1, o1, rfl, hb1, r0⟩ := seg_tok (HS.out.below HB.out) ht
        have BW := Below.then HB1.out HB.out
        have hN := fun W (hW : Below W1.heap.size W1 W) => numberOf_any (txB t) W (HE.out.below (Below.then HB1.out hW))
        have HHT : Hid (ts[k]? = some t) := ht
        have hlt1 : Hid (W1.heap.size ≤ wr.heap.size) := HB.out.size
        have s1 : True := trivial
        have s2 : True := trivial
        have s3 : True := trivial
        have s4 : True := trivial
        have s5 : True := trivial
        have s6 : True := trivial
        by_cases hq : nuF (txB t) < 18
        · rw [noV_yes rfl hq] at hN
          by_cases hkd : (t.kind : Int) = 1
          · have hkb : ((t.kind : Int) != 1) = false := by simpa using hkd
            have hbt : badT t = false := by unfold badT; simp; omega
            have HFN : Hid (FstAt (badTP ts) n (k + 1)) := HF.out.next hlt (badT_miss ht hbt)
            have HM : Hid (((ts.take (k + 1)).map txB).flatMap strE = ((ts.take k).map txB).flatMap strE ++ [.string (txB t)]) := by
              show _ = _; rw [take_at ht, List.map_append, List.map_cons, List.map_nil, str_snoc]
            clear hkd hbt ht hq
            go_wp2_with (first
              | (clear s1; refine wpList_load_mid rfl 44 _ rfl b1 _ rfl (Lx.tokL t) _ r0 Tryd.underlying44 rfl infoTok ?_)
              | (clear s2; refine wpList_allocS rfl _ rfl _ zeroTok ?_; intro W2 b8 F2 I2; have B2 := Below.then HB.out (F_b F2); have O2 := own_below HO.out (F_b F2); have hb8 : Hid (wr.heap.size ≤ b8) := Nat.le_of_eq F2.at'.symm; clear F2)
              | (clear s3; refine wpList_storeW rfl _ _ _ rfl rfl (Lx.tokL t) rfl I2 rfl infoTok (Lx.tok_one t) ?_; intro W3 U3 I3; have B3 := U3.trans B2 (Nat.le_trans hlt1.out hb8.out); have O3 := Lx.own_updN O2 U3 (Lx.own_ne O2 I2 (by decide)); have z0 : W3.cell? ⟨b8, 0, none⟩ = some (.int .i64 (t.kind : Int)) := I3.cell 0; have z1 : W3.cell? ⟨b8, 1, none⟩ = some (.string (txB t)) := I3.cell 1; have z3 : W3.cell? ⟨b8, 3, none⟩ = some (.int .i64 (t.line : Int)) := I3.cell 3; have z4 : W3.cell? ⟨b8, 4, none⟩ = some (.int .i64 (t.col : Int)) := I3.cell 4; clear U3 I2 B2 O2 hb8)
              | (clear s4; go_at_call 11; refine (hN W3 B3).mono ?_; rintro e W4 ⟨rfl, B4⟩; have O4 := own_below O3 B4; have BB4 := Below.then B3 B4; replace z0 := cell_grow z0 B4; replace z1 := cell_grow z1 B4; replace z3 := cell_grow z3 B4; replace z4 := cell_grow z4 B4; clear I3 O3 B3 B4)
              | (clear s5; refine wpList_build1E eStr rfl _ rfl (.string (txB t)) rfl rfl ?_; intro W5 b5 F5 I5; have O5 := own_below O4 (F_b F5); have B5 := Below.then BB4 (F_b F5))
              | (clear s6; at_builtin; refine wpList_appB rfl _ _ rfl W1.heap.size _ k _ rfl O5 _ 1 [.string (txB t)] rfl (row_isS I5) rfl (str_one1 _) (by omega) B5.size ?_; intro v6 W6 O6 G6))
            have O6' := O6
            rw [← HM.out] at O6'
            obtain ⟨a5, c5, rfl⟩ := own_form O6
            go_roundw
            case rel => exact ⟨k + 1, by omega, by go_num, ⟨_, _, rfl⟩, grown_below B5 B5.size O5 G6, O6', HFN⟩
            case measure => simp [intOf]; omega
          · have hkb : ((t.kind : Int) != 1) = true := by simpa using hkd
            have hbt : badT t = true := by unfold badT; simp; omega
            have HBADT : Hid (ts[badTN ts]? = some t) := by
              have : badTN ts = k := by show fst' _ _ _ = _; rw [HN.out]; exact HF.out.hit hlt (badT_hit ht hbt)
              show _ = _; rw [this]; exact ht
            clear hkd hbt ht hq
            go_wp2_with (first
              | (clear s1; refine wpList_load_mid rfl 44 _ rfl b1 _ rfl (Lx.tokL t) _ r0 Tryd.underlying44 rfl infoTok ?_)
              | (clear s2; refine wpList_allocS rfl _ rfl _ zeroTok ?_; intro W2 b8 F2 I2; have B2 := Below.then HB.out (F_b F2); have O2 := own_below HO.out (F_b F2); have hb8 : Hid (wr.heap.size ≤ b8) := Nat.le_of_eq F2.at'.symm; clear F2)
              | (clear s3; refine wpList_storeW rfl _ _ _ rfl rfl (Lx.tokL t) rfl I2 rfl infoTok (Lx.tok_one t) ?_; intro W3 U3 I3; have B3 := U3.trans B2 (Nat.le_trans hlt1.out hb8.out); have O3 := Lx.own_updN O2 U3 (Lx.own_ne O2 I2 (by decide)); have z0 : W3.cell? ⟨b8, 0, none⟩ = some (.int .i64 (t.kind : Int)) := I3.cell 0; have z1 : W3.cell? ⟨b8, 1, none⟩ = some (.string (txB t)) := I3.cell 1; have z3 : W3.cell? ⟨b8, 3, none⟩ = some (.int .i64 (t.line : Int)) := I3.cell 3; have z4 : W3.cell? ⟨b8, 4, none⟩ = some (.int .i64 (t.col : Int)) := I3.cell 4; clear U3 I2 B2 O2 hb8)
              | (clear s4; go_at_call 11; refine (hN W3 B3).mono ?_; rintro e W4 ⟨rfl, B4⟩; have O4 := own_below O3 B4; have BB4 := Below.then B3 B4; replace z0 := cell_grow z0 B4; replace z1 := cell_grow z1 B4; replace z3 := cell_grow z3 B4; replace z4 := cell_grow z4 B4; clear I3 O3 B3 B4))
            go_region
            go_wp2
            have BD : Below W4.heap.size W4 W4.drew := ⟨rfl, rfl, rfl, Nat.le_refl _, fun _ _ => rfl⟩
            exact HA1.out t W4.heap.size _ (by simp) HBADT.out (World.alloc_heap_new W4.drew _) (Below.then HB1.out (Below.then BB4 (Below.then BD ((Below.refl _ W4.drew).alloc (Nat.le_refl _) _))))
        · have h18 : nuF (txB t) = 18 := Nat.le_antisymm (nu_le _) (by omega)
          rw [noV_no h18] at hN
          have hbt : badT t = true := by unfold badT; simp [h18]
          have HBADT : Hid (ts[badTN ts]? = some t) := by
            have : badTN ts = k := by show fst' _ _ _ = _; rw [HN.out]; exact HF.out.hit hlt (badT_hit ht hbt)
            show _ = _; rw [this]; exact ht
          clear hbt ht hq h18
          go_wp2_with (first
            | (clear s1; refine wpList_load_mid rfl 44 _ rfl b1 _ rfl (Lx.tokL t) _ r0 Tryd.underlying44 rfl infoTok ?_)
            | (clear s2; refine wpList_allocS rfl _ rfl _ zeroTok ?_; intro W2 b8 F2 I2; have B2 := Below.then HB.out (F_b F2); have O2 := own_below HO.out (F_b F2); have hb8 : Hid (wr.heap.size ≤ b8) := Nat.le_of_eq F2.at'.symm; clear F2)
            | (clear s3; refine wpList_storeW rfl _ _ _ rfl rfl (Lx.tokL t) rfl I2 rfl infoTok (Lx.tok_one t) ?_; intro W3 U3 I3; have B3 := U3.trans B2 (Nat.le_trans hlt1.out hb8.out); have O3 := Lx.own_updN O2 U3 (Lx.own_ne O2 I2 (by decide)); have z0 : W3.cell? ⟨b8, 0, none⟩ = some (.int .i64 (t.kind : Int)) := I3.cell 0; have z1 : W3.cell? ⟨b8, 1, none⟩ = some (.string (txB t)) := I3.cell 1; have z3 : W3.cell? ⟨b8, 3, none⟩ = some (.int .i64 (t.line : Int)) := I3.cell 3; have z4 : W3.cell? ⟨b8, 4, none⟩ = some (.int .i64 (t.col : Int)) := I3.cell 4; clear U3 I2 B2 O2 hb8)
            | (clear s4; go_at_call 11; refine (hN W3 B3).mono ?_; rintro e W4 ⟨rfl, B4⟩; have O4 := own_below O3 B4; have BB4 := Below.then B3 B4; replace z0 := cell_grow z0 B4; replace z1 := cell_grow z1 B4; replace z3 := cell_grow z3 B4; replace z4 := cell_grow z4 B4; clear I3 O3 B3 B4))
          go_region
          go_wp2
          have BD : Below W4.heap.size W4 W4.drew := ⟨rfl, rfl, rfl, Nat.le_refl _, fun _ _ => rfl⟩
          exact HA1.out t W4.heap.size _ (by simp) HBADT.out (World.alloc_heap_new W4.drew _) (Below.then HB1.out (Below.then BB4 (Below.then BD ((Below.refl _ W4.drew).alloc (Nat.le_refl _) _))))
      · have e : n = k := by omega
        subst e
        have HM : Hid (badTN ts = n) := by
          show fst' _ _ _ = _; rw [HN.out]; exact HF.out.done (Nat.le_refl _)
        have O := HO.out
        rw [List.take_of_length_le (by rw [HN.out]; exact Nat.le_refl _)] at O
        have hki : ¬ ((n : Int) < (n : Int)) := by omega
        go_wp2
        exact HA2.out _ _ (by simp) HM.out (Lx.own_base O HB1.out.size) (Below.then HB1.out HB.out)
end Go.Proofs.YtopnbemodlcknaaDoor

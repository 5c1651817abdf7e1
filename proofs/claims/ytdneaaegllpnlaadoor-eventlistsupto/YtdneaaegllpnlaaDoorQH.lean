/- Several texts in one: GH17, GI17. -/
import Derived.Test.YtdneaaegllpnlaaDoorQF
import Derived.Test.YtdneaaegllpnlaaDoorQP
import Derived.Test.YtdneaaegllpnlaaDoorQS
import Derived.Test.YtdneaaegllpnlaaDoorGD17
import Derived.Test.YtdneaaegllpnlaaDoorGE17
import Derived.Test.YtdneaaegllpnlaaDoorChecked
import Derived.Test.YtdneaaegllpnlaaDoorTie
import Derived.Test.YtdneaaegllpnlaaDoorCards
import Derived.ChangeMaps5
import Derived.ChangeOld
import Derived.Deep.DeepHandedRow
import Derived.JoinedCond
import Derived.LaidMore
import Derived.Lib.LaidTab
import Derived.Lib.RowBridge
import Derived.OpenShut
import Derived.ProofKit
import Derived.SevenTiedAt
import Derived.SizedLaws
import Derived.Stop.Joined
import Derived.Stop.LaidErr
/- EventLists: for every program, every set of failing tries and every event the law returns true. -/
namespace Go.Proofs.YtdneaaegllpnlaaDoor
open Go.RowKit M
set_option linter.unusedSimpArgs false
set_option linter.unusedVariables false

theorem putL_at : ∀ (vs cs : List Value) (o j : Nat), o + vs.length ≤ j → (putL cs o vs)[j]? = cs[j]?
  | [], cs, o, j, _ => rfl
  | v :: vs, cs, o, j, h => by
    show (putL (cs.set o v) (o + 1) vs)[j]? = _
    rw [List.length_cons] at h
    rw [putL_at vs _ (o + 1) j (by omega), List.getElem?_set, if_neg (by omega)]
theorem putL_len' : ∀ (vs cs : List Value) (o : Nat), (putL cs o vs).length = cs.length
  | [], cs, o => rfl
  | v :: vs, cs, o => by show (putL (cs.set o v) (o + 1) vs).length = _; rw [putL_len' vs, List.length_set]
/-- What is known while the first answer is written over: the second one, and the reference's, stay. -/
structure LX (Wc wr : World) (g : Nat) (cs : List Value) (vb vw : Value) (L : List EV) (Hb Hw : Nat) : Prop where
  bel : Below Wc.heap.size Wc wr
  a : IsS wr g 32 cs
  b : wr.ownsRow Hb 32 5 vb L.length (L.flatMap evL)
  w : wr.ownsRow Hw 32 5 vw L.length (L.flatMap evL)
  nb : ∀ kk, vb.ownBlock = some kk → kk ≠ g
  nw : ∀ kk, vw.ownBlock = some kk → kk ≠ g
  ge : Wc.heap.size ≤ g
theorem LX.below {Wc wr W' : World} {g Hb Hw : Nat} {cs : List Value} {vb vw : Value} {L : List EV} (h : LX Wc wr g cs vb vw L Hb Hw) (B : Below wr.heap.size wr W') : LX Wc W' g cs vb vw L Hb Hw :=
  ⟨Below.then h.bel B, h.a.grown B, own_below h.b B, own_below h.w B, h.nb, h.nw, h.ge⟩
theorem LX.upd {Wc wr W' : World} {g Hb Hw : Nat} {cs cs' : List Value} {vb vw : Value} {L : List EV} (h : LX Wc wr g cs vb vw L Hb Hw) (U : Upd wr W' g) (I : IsS W' g 32 cs') : LX Wc W' g cs' vb vw L Hb Hw :=
  ⟨U.trans h.bel h.ge, I, own_same h.b (fun kk hk => U.block kk (h.nb kk hk)), own_same h.w (fun kk hk => U.block kk (h.nw kk hk)), h.nb, h.nw, h.ge⟩
section
variable {w : World} {ops : Array Oper} {rest : List Oper} {op : Oper} {a : Act} {Q : Exit → Act → World → Prop}
theorem wpList_storeEv {b o : Nat} {cs : List Value} (hgd : op.guard = none) (x y : Operand) (ho : op.op = .store 32 x y) (hx : a.eval x = .pointer (some ⟨b, o, none⟩)) (e : EV) (hy : a.eval y = .agg (evL e).toArray) (hc : IsS w b 32 cs) (hk : o + 5 ≤ cs.length)
    (h : ∀ W cs', Upd w W b → cs'.length = cs.length → (∀ j, o + 5 ≤ j → cs'[j]? = cs[j]?) → IsS W b 32 cs' → wpList Tryd.prog ops Q rest (a.put op.dst undef) W) : wpList Tryd.prog ops Q (op :: rest) a w := by
  refine wpList_store_mid hgd 32 x y ho b o (evL e).toArray hx hy (hc.there o _ (by simpa [evL] using hk)) (by show (Tryd.prog.info? 32).map (·.size) = some 5; exact infoEv) (all_oneCell_toArray (ev_oneC e)) ?_
  have := h _ _ (Upd.setCells b (evL e) o w) (putL_len' ..) (fun j hj => putL_at (evL e) cs o j hj) (IsS.setL (evL e) o cs w hc)
  simpa using this
set_option maxRecDepth 100000 in
theorem wpList_bD (hgd : op.guard = none) (ho : op.op = .build 32 #[(0, .const (.int .i64 (-1)))])
    (h : wpList Tryd.prog ops Q rest (a.put op.dst (.agg (evL ⟨-1, 0, 0, 0, false⟩).toArray)) w) : wpList Tryd.prog ops Q (op :: rest) a w := by
  refine wpList_plain hgd fun K hK => ?_
  unfold Oper.wp execOp
  have hb : Tryd.prog.built 32 [(0, .int .i64 (-1))] = some (evL ⟨-1, 0, 0, 0, false⟩).toArray := by kernel_rfl
  simp only [ho, List.map_toArray, List.map_cons, List.map_nil, show ∀ v, a.eval (.const v) = v from fun _ => rfl, Sem.run_bind, run_build w 32 #[(0, .int .i64 (-1))] (evL ⟨-1, 0, 0, 0, false⟩).toArray hb, Result.andThen_ok, Sem.run_pure]
  exact hK _ _ h
end
theorem pgv_one {w : World} {vt vr vl vi vj : Value} {p : PG} (h : PGV w vt vr vl vi vj p) : ∀ v ∈ [vt, vr, vl, vi, vj], v.oneCell' = true := by
  obtain ⟨a1, c1, rfl⟩ := h.t.form
  obtain ⟨a2, c2, rfl⟩ := h.r.form
  obtain ⟨a3, c3, rfl, _⟩ := h.l
  obtain ⟨a4, c4, rfl⟩ := h.i.form
  obtain ⟨a5, c5, rfl, _⟩ := h.j
  simp [Value.oneCell']
theorem own_seg2 {W : World} {B t s n c : Nat} {a : Option Addr} {xs : List Value} (h : W.ownsRow B t s (.slice a n c) n xs) : Seg W a xs := by
  obtain ⟨a', c', e, sg, _⟩ := own_row h
  cases e
  exact sg
/-- The numbers of an event of a list are of 64 bits. -/
theorem mdL_N (o : Op5) (t i : Int) (fl : Bool) (ht : 0 ≤ t ∧ t ≤ 1048576) (hi : 0 ≤ i ∧ i ≤ 1048576) : ∀ e ∈ mdL o t i fl, EvN e := by
  intro e he
  unfold mdL at he
  split at he
  · rw [List.mem_singleton] at he; subst he; show -9223372036854775808 ≤ t ∧ t ≤ 9223372036854775807 ∧ -9223372036854775808 ≤ i ∧ i ≤ 9223372036854775807; omega
  split at he
  · rw [List.mem_singleton] at he; subst he; show -9223372036854775808 ≤ t ∧ t ≤ 9223372036854775807 ∧ -9223372036854775808 ≤ i ∧ i ≤ 9223372036854775807; omega
  split at he
  · rw [List.mem_singleton] at he; subst he; show -9223372036854775808 ≤ t ∧ t ≤ 9223372036854775807 ∧ -9223372036854775808 ≤ i ∧ i ≤ 9223372036854775807; omega
  split at he
  · split at he
    · rw [List.mem_singleton] at he; subst he; show -9223372036854775808 ≤ t ∧ t ≤ 9223372036854775807 ∧ -9223372036854775808 ≤ i ∧ i ≤ 9223372036854775807; omega
    · rcases List.mem_cons.1 he with rfl | he
      · show -9223372036854775808 ≤ t ∧ t ≤ 9223372036854775807 ∧ -9223372036854775808 ≤ i ∧ i ≤ 9223372036854775807; omega
      · rw [List.mem_singleton] at he; subst he; show -9223372036854775808 ≤ t ∧ t ≤ 9223372036854775807 ∧ -9223372036854775808 ≤ i ∧ i ≤ 9223372036854775807; omega
  · cases he
theorem opsE_N (f t : Nat) (ht : t ≤ 1048576) : ∀ (os : List Op5) (i k : Nat), i + os.length ≤ 1048576 → ∀ e ∈ opsE f t i k os, EvN e
  | [], _, _, _, e, he => by cases he
  | o :: os, i, k, h, e, he => by
    rw [List.length_cons] at h
    unfold opsE at he
    rcases List.mem_append.1 he with he | he
    · exact mdL_N o _ _ _ (by omega) (by omega) e he
    · exact opsE_N f t ht os _ _ (by omega) e he
theorem thsE_N (f : Nat) : ∀ (r : List (List Op5)) (t k : Nat), t + r.length ≤ 1048576 → r.flatten.length ≤ 1048576 → ∀ e ∈ thsE f t k r, EvN e
  | [], _, _, _, _, e, he => by cases he
  | os :: r, t, k, h, hl, e, he => by
    rw [List.length_cons] at h
    rw [List.flatten_cons, List.length_append] at hl
    unfold thsE at he
    rcases List.mem_append.1 he with he | he
    · exact opsE_N f t (by omega) os 0 _ (by omega) e he
    · exact thsE_N f r _ _ (by omega) (by omega) e he
theorem lsL_len (p : PG) (hf : p.Few) (f : Nat) : (lsL p f).length ≤ 3145728 := by
  unfold lsL
  split
  · simp
  split
  · simp
  · unfold evE
    have h1 := thsE_len f p.threads 0 0
    have h2 := hf.tt
    have h3 := hf.l
    rw [List.length_append, inE_len]
    omega
theorem lsL_N (p : PG) (hf : p.Few) (f : Nat) : ∀ e ∈ lsL p f, EvN e := by
  intro e he
  unfold lsL at he
  split at he
  · cases he
  split at he
  · cases he
  unfold evE at he
  rcases List.mem_append.1 he with he | he
  · unfold inE at he
    obtain ⟨i, _, rfl⟩ := List.mem_map.1 he
    simp [EvN]
  · exact thsE_N f _ _ _ (by have := hf.t; omega) hf.tt e he
set_option maxRecDepth 100000 in
set_option maxHeartbeats 16000000 in
theorem eventLists_any (p : PG) (hf : p.Few) (hs : ∀ s ∈ p.locs, s.size ≤ 1048576) (f : Nat) (hff : f < 18446744073709551616) (e : EV) (he : EvN e) (vt vr vl vi vj : Value) (w : World) (hp : PGV w vt vr vl vi vj p) (hT : Tab10 w) :
    Calls Tryd.prog 3 #[.agg #[vt, vr, vl, vi, vj], .int .u64 (f : Int), .agg (evL e).toArray] w fun en w' => en = .returned (.bool true) ∧ Below w.heap.size w w' := by
  have HP : Hid (PGV w vt vr vl vi vj p) := hp
  have HTB : Hid (Tab10 w) := hT
  have HF : Hid p.Few := hf
  have HSZ : Hid (∀ s ∈ p.locs, s.size ≤ 1048576) := hs
  have HE : Hid (EvN e) := he
  have HNs : Hid (∀ x ∈ lsL p f, EvN x) := lsL_N p hf f
  have hLn : (lsL p f).length ≤ 3145728 := lsL_len p hf f
  have cC : Hid (∀ W, Below w.heap.size w W → Calls Tryd.prog 9 #[.agg #[vt, vr, vl, vi, vj]] W fun en w' => (∃ vt' vr' vl' vi' vj', en = .returned (.agg #[vt', vr', vl', vi', vj']) ∧ PGV w' vt' vr' vl' vi' vj' p) ∧ Below W.heap.size W w') := fun W h => copy_any p hf vt vr vl vi vj W (hp.below h)
  obtain ⟨tr, htr⟩ : ∃ x, trA p = x := ⟨_, rfl⟩
  obtain ⟨va, hva⟩ : ∃ x, validV p = x := ⟨_, rfl⟩
  obtain ⟨le, hle⟩ : ∃ x, lsE p f = x := ⟨_, rfl⟩
  obtain ⟨L, hL⟩ : ∃ x, lsL p f = x := ⟨_, rfl⟩
  have cT : Hid (∀ (vt vr vl vi vj : Value) W, PGV W vt vr vl vi vj p → Calls Tryd.prog 10 #[.agg #[vt, vr, vl, vi, vj]] W fun e w' => e = .returned (.tuple #[.int .i64 tr, .int .i64 va]) ∧ Below W.heap.size W w') := fun _ _ _ _ _ W h => by rw [← htr, ← hva]; exact tries_any p hf _ _ _ _ _ W h
  have cR : Hid (∀ (vt vr vl vi vj : Value) W, PGV W vt vr vl vi vj p → Calls Tryd.prog 11 #[.agg #[vt, vr, vl, vi, vj]] W fun e w' => e = .returned (.tuple #[.int .i64 tr, .int .i64 va]) ∧ Below W.heap.size W w') := fun _ _ _ _ _ W h => by rw [← htr, ← hva]; exact rtries_any p hf _ _ _ _ _ W h
  have cL : Hid (∀ (vt vr vl vi vj : Value) W, PGV W vt vr vl vi vj p → Calls Tryd.prog 12 #[.agg #[vt, vr, vl, vi, vj], .int .u64 (f : Int)] W fun e w' => LsA W L le e w') := fun _ _ _ _ _ W h => by rw [← hL, ← hle]; exact list_any p hf f hff _ _ _ _ _ W h
  have cM : Hid (∀ (vt vr vl vi vj : Value) W, PGV W vt vr vl vi vj p → Calls Tryd.prog 13 #[.agg #[vt, vr, vl, vi, vj], .int .u64 (f : Int)] W fun e w' => LsA W L le e w') := fun _ _ _ _ _ W h => by rw [← hL, ← hle]; exact rlist_any p hf f hff _ _ _ _ _ W h
  rw [hL] at HNs hLn
  clear htr hva hle hL hf hff hp hT hs he
  go_enter Tryd.func3, Tryd.ntmps3
  go_upto_region 2 with (first
    | (refine wpList_boxS rfl 28 _ rfl [vt, vr, vl, vi, vj] rfl ?_; intro W1 b1 F1 C1; have B1 := F_b F1; clear F1)
    | (refine wpList_boxS rfl 32 _ rfl (evL e) rfl ?_; intro W2 b2 F2 C2; have B2 := Below.then B1 (F_b F2); replace C1 := C1.fresh F2; clear F2 B1)
    | (refine wpList_loadW rfl 28 _ rfl rfl C1 _ Tryd.underlying28 rfl infoPg ?_)
    | (go_at_call 9; refine (cC.out _ B2).mono ?_; rintro en W3 ⟨⟨ut, ur, ul, ui, uj, rfl, HQ3⟩, B3⟩; replace C1 := C1.grown B3; replace C2 := C2.grown B3; have B4 := Below.then B2 B3; have Q3 : Hid (PGV W3 ut ur ul ui uj p) := HQ3; clear B3 B2 cC HQ3)
    | (refine wpList_allocS rfl 28 rfl z5 zeroPg ?_; intro W4 b4 F4 K4; have B5 := Below.then B4 (F_b F4); have Q4 : Hid (PGV W4 ut ur ul ui uj p) := Q3.out.below (F_b F4); have hn1 : b1 ≠ b4 := (by have := C1.lt; have := F4.at'; omega); have hn2 : b2 ≠ b4 := (by have := C2.lt; have := F4.at'; omega); have h3 : W3.heap.size ≤ b4 := Nat.le_of_eq F4.at'.symm; have hw4 : w.heap.size ≤ b4 := Nat.le_trans B4.size h3; have BF := F_b F4; replace C1 := C1.fresh F4; replace C2 := C2.fresh F4; clear F4 B4 Q4)
    | (refine wpList_storeW rfl 28 _ _ rfl rfl [ut, ur, ul, ui, uj] rfl K4 rfl infoPg (pgv_one Q3.out) ?_; intro W5 U5 C4; have B6 := U5.trans B5 hw4; have Q5 : Hid (PGV W5 ut ur ul ui uj p) := Q3.out.below (U5.trans BF h3); replace C1 := C1.upd U5 hn1; replace C2 := C2.upd U5 hn2; clear U5 K4 B5 BF Q3 hn1 hn2 h3 hw4))
  have P5 : Hid (PGV W5 vt vr vl vi vj p) := HP.out.below B6
  clear HP
  go_upto_region 4 with (first
    | (refine wpList_loadW rfl 28 _ rfl rfl C1 _ Tryd.underlying28 rfl infoPg ?_)
    | (refine wpList_loadW rfl 28 _ rfl rfl C4 _ Tryd.underlying28 rfl infoPg ?_)
    | (go_at_call 10; refine (cT.out _ _ _ _ _ _ Q5.out).mono ?_; rintro en W6 ⟨rfl, B⟩; replace C1 := C1.grown B; replace C2 := C2.grown B; replace C4 := C4.grown B; have Q6 : Hid (PGV W6 ut ur ul ui uj p) := Q5.out.below B; have P6 : Hid (PGV W6 vt vr vl vi vj p) := P5.out.below B; replace B6 := Below.then B6 B; clear B Q5 P5 cT)
    | (go_at_call 11; refine (cR.out _ _ _ _ _ _ P6.out).mono ?_; rintro en Wc ⟨rfl, B⟩; replace C1 := C1.grown B; replace C2 := C2.grown B; replace C4 := C4.grown B; have QC : Hid (PGV Wc ut ur ul ui uj p) := Q6.out.below B; have PC : Hid (PGV Wc vt vr vl vi vj p) := P6.out.below B; replace B6 := Below.then B6 B; clear B Q6 P6 cR))
  have HBc : Hid (Below w.heap.size w Wc) := B6
  have HTC : Hid (Tab10 Wc) := HTB.out.below B6
  have HC1 : Hid (IsS Wc b1 28 [vt, vr, vl, vi, vj]) := C1
  have HC2 : Hid (IsS Wc b2 32 (evL e)) := C2
  have HC4 : Hid (IsS Wc b4 28 [ut, ur, ul, ui, uj]) := C4
  clear B6 HTB
  have t1 : True := trivial
  go_upto_region 7 with (first
    | (refine wpList_loadW rfl 28 _ rfl rfl C1 _ Tryd.underlying28 rfl infoPg ?_)
    | (refine wpList_loadW rfl 28 _ rfl rfl C4 _ Tryd.underlying28 rfl infoPg ?_)
    | (clear t1; go_at_call 12; refine (cL.out _ _ _ _ _ _ QC.out).mono ?_; rintro en Wa ⟨xa, rfl, Oa, Ba⟩; replace C1 := C1.grown Ba; replace C2 := C2.grown Ba; replace C4 := C4.grown Ba; have Q7 : Hid (PGV Wa ut ur ul ui uj p) := QC.out.below Ba)
    | (go_at_call 12; refine (cL.out _ _ _ _ _ _ Q7.out).mono ?_; rintro en Wb ⟨xb, rfl, Ob, Bb⟩; replace C1 := C1.grown Bb; replace C2 := C2.grown Bb; replace C4 := C4.grown Bb; have Oa2 := own_below Oa Bb; have Ba2 := Below.then Ba Bb; have P7 : Hid (PGV Wb vt vr vl vi vj p) := PC.out.below Ba2; clear Q7)
    | (go_at_call 13; refine (cM.out _ _ _ _ _ _ P7.out).mono ?_; rintro en Wd ⟨xw, rfl, Ow, Bw⟩; have Oa3 := own_below Oa2 Bw; have Ob3 := own_below Ob Bw; have Bd := Below.then Ba2 Bw; clear P7 Oa2 C1 C2 C4))
  have gb : ∀ kk, xb.ownBlock = some kk → Wa.heap.size ≤ kk := fun kk hk => (own_lt Ob3 hk).1
  have gw : ∀ kk, xw.ownBlock = some kk → Wa.heap.size ≤ kk := fun kk hk => Nat.le_trans Bb.size (own_lt Ow hk).1
  have ga : ∀ kk, xa.ownBlock = some kk → Wc.heap.size ≤ kk ∧ kk < Wa.heap.size := fun kk hk => own_lt Oa hk
  have HGb : Hid (∀ kk, xb.ownBlock = some kk → Wa.heap.size ≤ kk) := gb
  have HGw : Hid (∀ kk, xw.ownBlock = some kk → Wa.heap.size ≤ kk) := gw
  have HGa : Hid (∀ kk, xa.ownBlock = some kk → Wc.heap.size ≤ kk ∧ kk < Wa.heap.size) := ga
  have HBd : Hid (Below Wc.heap.size Wc Wd) := Bd
  have HOa : Hid (Wd.ownsRow Wc.heap.size 32 5 xa L.length (L.flatMap evL)) := Oa3
  have HOb : Hid (Wd.ownsRow Wa.heap.size 32 5 xb L.length (L.flatMap evL)) := Ob3
  have HOw : Hid (Wd.ownsRow Wb.heap.size 32 5 xw L.length (L.flatMap evL)) := Ow
  clear gb gw ga Bd Oa3 Ob3 Ow Ba Bb Bw Ba2 Oa Ob cL cM
  obtain ⟨a1, c1, rfl⟩ := own_form HOa.out
  obtain ⟨a2, c2, rfl⟩ := own_form HOb.out
  obtain ⟨a3, c3, rfl⟩ := own_form HOw.out
  obtain ⟨n, hn⟩ : ∃ n, L.length = n := ⟨_, rfl⟩
  have HN : Hid (L.length = n) := hn
  rw [hn] at hLn HOa HOb HOw HGa HGb HGw ⊢
  clear hn
  have D1 : Hid (∀ W, Below Wd.heap.size Wd W → Calls Tryd.prog 14 #[.slice a1 n c1, .slice a3 n c3] W fun e w' => e = .returned (.bool true) ∧ Below W.heap.size W w') := fun W h => sameEvents_any L n HN.out (by omega) _ _ _ _ W (own_seg2 (own_below HOa.out h)) (own_seg2 (own_below HOw.out h))
  have D2 : Hid (∀ W, Below Wd.heap.size Wd W → Calls Tryd.prog 14 #[.slice a2 n c2, .slice a3 n c3] W fun e w' => e = .returned (.bool true) ∧ Below W.heap.size W w') := fun W h => sameEvents_any L n HN.out (by omega) _ _ _ _ W (own_seg2 (own_below HOb.out h)) (own_seg2 (own_below HOw.out h))
  have D3 : Hid (∀ W, Below Wd.heap.size Wd W → Calls Tryd.prog 15 #[.agg #[ut, ur, ul, ui, uj], .agg (evL e).toArray] W fun en w' => en = .returned (.string (txT p.locs e)) ∧ Below W.heap.size W w') := fun W h => text_ev p HSZ.out e HE.out _ _ _ _ _ W (QC.out.below (Below.then HBd.out h)) (HTC.out.below (Below.then HBd.out h))
  have D4 : Hid (∀ W, Below Wd.heap.size Wd W → Calls Tryd.prog 16 #[.agg #[vt, vr, vl, vi, vj], .agg (evL e).toArray] W fun en w' => en = .returned (.string (txT p.locs e)) ∧ Below W.heap.size W w') := fun W h => rtext_ev p HSZ.out e HE.out _ _ _ _ _ W (PC.out.below (Below.then HBd.out h))
  have D5 : Hid (∀ W, Below Wd.heap.size Wd W → Calls Tryd.prog 17 #[.agg #[ut, ur, ul, ui, uj], .agg #[vt, vr, vl, vi, vj]] W fun en w' => en = .returned (.bool true) ∧ Below W.heap.size W w') := fun W h => sameP_any p HF.out _ _ _ _ _ _ _ _ _ _ W (QC.out.below (Below.then HBd.out h)) (PC.out.below (Below.then HBd.out h))
  have E1 : Hid (IsS Wd b1 28 [vt, vr, vl, vi, vj]) := HC1.out.grown HBd.out
  have E2 : Hid (IsS Wd b2 32 (evL e)) := HC2.out.grown HBd.out
  have E4 : Hid (IsS Wd b4 28 [ut, ur, ul, ui, uj]) := HC4.out.grown HBd.out
  generalize txT p.locs e = TX at *
  refine grow_allW (by kernel_rfl) (by kernel_rfl) ?_
  refine WG.put rfl (v := .int .i64 tr) (fun w => by first | rfl | (go_simp; done) | (simp [go_sem]; done)) ?_
  simp only [Act.put, List.setIfInBounds_toArray, List.set_cons_succ, List.set_cons_zero]
  refine WG.put rfl (v := .int .i64 tr) (fun w => by first | rfl | (go_simp; done) | (simp [go_sem]; done)) ?_
  simp only [Act.put, List.setIfInBounds_toArray, List.set_cons_succ, List.set_cons_zero]
  refine WG.put rfl (v := .bool false) (fun w => by first | rfl | (go_simp; done) | (simp [go_sem]; done)) ?_
  simp only [Act.put, List.setIfInBounds_toArray, List.set_cons_succ, List.set_cons_zero]
  refine WG.put rfl (v := .bool false) (fun w => by first | rfl | (go_simp; done) | (simp [go_sem]; done)) ?_
  simp only [Act.put, List.setIfInBounds_toArray, List.set_cons_succ, List.set_cons_zero]
  refine WG.put rfl (v := .int .i64 va) (fun w => by first | rfl | (go_simp; done) | (simp [go_sem]; done)) ?_
  simp only [Act.put, List.setIfInBounds_toArray, List.set_cons_succ, List.set_cons_zero]
  refine WG.put rfl (v := .int .i64 va) (fun w => by first | rfl | (go_simp; done) | (simp [go_sem]; done)) ?_
  simp only [Act.put, List.setIfInBounds_toArray, List.set_cons_succ, List.set_cons_zero]
  refine WG.put rfl (v := .bool false) (fun w => by first | rfl | (go_simp; done) | (simp [go_sem]; done)) ?_
  simp only [Act.put, List.setIfInBounds_toArray, List.set_cons_succ, List.set_cons_zero]
  refine WG.put rfl (v := .bool false) (fun w => by first | rfl | (go_simp; done) | (simp [go_sem]; done)) ?_
  simp only [Act.put, List.setIfInBounds_toArray, List.set_cons_succ, List.set_cons_zero]
  refine WG.put rfl (v := .bool false) (fun w => by first | rfl | (go_simp; done) | (simp [go_sem]; done)) ?_
  simp only [Act.put, List.setIfInBounds_toArray, List.set_cons_succ, List.set_cons_zero]
  refine WG.put rfl (v := .slice a1 n c1) (fun w => by first | rfl | (go_simp; done) | (simp [go_sem]; done)) ?_
  simp only [Act.put, List.setIfInBounds_toArray, List.set_cons_succ, List.set_cons_zero]
  refine WG.put rfl (v := .slice a3 n c3) (fun w => by first | rfl | (go_simp; done) | (simp [go_sem]; done)) ?_
  simp only [Act.put, List.setIfInBounds_toArray, List.set_cons_succ, List.set_cons_zero]
  refine WG.call rfl (fun w' hw' => D1.out w' hw') (fun w => by first | rfl | (go_simp; done)) ?_
  simp only [Act.put, List.setIfInBounds_toArray, List.set_cons_succ, List.set_cons_zero]
  refine WG.put rfl (v := .bool false) (fun w => by first | rfl | (go_simp; done) | (simp [go_sem]; done)) ?_
  simp only [Act.put, List.setIfInBounds_toArray, List.set_cons_succ, List.set_cons_zero]
  refine WG.put rfl (v := .bool false) (fun w => by first | rfl | (go_simp; done) | (simp [go_sem]; done)) ?_
  simp only [Act.put, List.setIfInBounds_toArray, List.set_cons_succ, List.set_cons_zero]
  refine WG.put rfl (v := .bool false) (fun w => by first | rfl | (go_simp; done) | (simp [go_sem]; done)) ?_
  simp only [Act.put, List.setIfInBounds_toArray, List.set_cons_succ, List.set_cons_zero]
  refine WG.put rfl (v := .slice a2 n c2) (fun w => by first | rfl | (go_simp; done) | (simp [go_sem]; done)) ?_
  simp only [Act.put, List.setIfInBounds_toArray, List.set_cons_succ, List.set_cons_zero]
  refine WG.put rfl (v := .slice a3 n c3) (fun w => by first | rfl | (go_simp; done) | (simp [go_sem]; done)) ?_
  simp only [Act.put, List.setIfInBounds_toArray, List.set_cons_succ, List.set_cons_zero]
  refine WG.call rfl (fun w' hw' => D2.out w' hw') (fun w => by first | rfl | (go_simp; done)) ?_
  simp only [Act.put, List.setIfInBounds_toArray, List.set_cons_succ, List.set_cons_zero]
  refine WG.put rfl (v := .bool false) (fun w => by first | rfl | (go_simp; done) | (simp [go_sem]; done)) ?_
  simp only [Act.put, List.setIfInBounds_toArray, List.set_cons_succ, List.set_cons_zero]
  refine WG.put rfl (v := .bool false) (fun w => by first | rfl | (go_simp; done) | (simp [go_sem]; done)) ?_
  simp only [Act.put, List.setIfInBounds_toArray, List.set_cons_succ, List.set_cons_zero]
  refine WG.put rfl (v := .bool false) (fun w => by first | rfl | (go_simp; done) | (simp [go_sem]; done)) ?_
  simp only [Act.put, List.setIfInBounds_toArray, List.set_cons_succ, List.set_cons_zero]
  refine WG.put rfl (v := .int .i64 le) (fun w => by first | rfl | (go_simp; done) | (simp [go_sem]; done)) ?_
  simp only [Act.put, List.setIfInBounds_toArray, List.set_cons_succ, List.set_cons_zero]
  refine WG.put rfl (v := .int .i64 le) (fun w => by first | rfl | (go_simp; done) | (simp [go_sem]; done)) ?_
  simp only [Act.put, List.setIfInBounds_toArray, List.set_cons_succ, List.set_cons_zero]
  refine WG.put rfl (v := .bool false) (fun w => by first | rfl | (go_simp; done) | (simp [go_sem]; done)) ?_
  simp only [Act.put, List.setIfInBounds_toArray, List.set_cons_succ, List.set_cons_zero]
  refine WG.put rfl (v := .bool false) (fun w => by first | rfl | (go_simp; done) | (simp [go_sem]; done)) ?_
  simp only [Act.put, List.setIfInBounds_toArray, List.set_cons_succ, List.set_cons_zero]
  refine WG.put rfl (v := .bool false) (fun w => by first | rfl | (go_simp; done) | (simp [go_sem]; done)) ?_
  simp only [Act.put, List.setIfInBounds_toArray, List.set_cons_succ, List.set_cons_zero]
  refine WG.row rfl 28 _ rfl rfl E4.out _ rfl _ Tryd.underlying28 rfl infoPg ?_
  simp only [Act.put, List.setIfInBounds_toArray, List.set_cons_succ, List.set_cons_zero]
  refine WG.row rfl 32 _ rfl rfl E2.out _ rfl _ Tryd.underlying32 rfl infoEv ?_
  simp only [Act.put, List.setIfInBounds_toArray, List.set_cons_succ, List.set_cons_zero]
  refine WG.call rfl (fun w' hw' => D3.out w' hw') (fun w => by first | rfl | (go_simp; done)) ?_
  simp only [Act.put, List.setIfInBounds_toArray, List.set_cons_succ, List.set_cons_zero]
  refine WG.row rfl 28 _ rfl rfl E1.out _ rfl _ Tryd.underlying28 rfl infoPg ?_
  simp only [Act.put, List.setIfInBounds_toArray, List.set_cons_succ, List.set_cons_zero]
  refine WG.row rfl 32 _ rfl rfl E2.out _ rfl _ Tryd.underlying32 rfl infoEv ?_
  simp only [Act.put, List.setIfInBounds_toArray, List.set_cons_succ, List.set_cons_zero]
  refine WG.call rfl (fun w' hw' => D4.out w' hw') (fun w => by first | rfl | (go_simp; done)) ?_
  simp only [Act.put, List.setIfInBounds_toArray, List.set_cons_succ, List.set_cons_zero]
  refine WG.put rfl (v := .bool false) (fun w => by first | rfl | (go_simp; done) | (simp [go_sem]; done)) ?_
  simp only [Act.put, List.setIfInBounds_toArray, List.set_cons_succ, List.set_cons_zero]
  refine WG.put rfl (v := .bool false) (fun w => by first | rfl | (go_simp; done) | (simp [go_sem]; done)) ?_
  simp only [Act.put, List.setIfInBounds_toArray, List.set_cons_succ, List.set_cons_zero]
  refine WG.put rfl (v := .bool false) (fun w => by first | rfl | (go_simp; done) | (simp [go_sem]; done)) ?_
  simp only [Act.put, List.setIfInBounds_toArray, List.set_cons_succ, List.set_cons_zero]
  refine WG.row rfl 28 _ rfl rfl E4.out _ rfl _ Tryd.underlying28 rfl infoPg ?_
  simp only [Act.put, List.setIfInBounds_toArray, List.set_cons_succ, List.set_cons_zero]
  refine WG.row rfl 28 _ rfl rfl E1.out _ rfl _ Tryd.underlying28 rfl infoPg ?_
  simp only [Act.put, List.setIfInBounds_toArray, List.set_cons_succ, List.set_cons_zero]
  refine WG.call rfl (fun w' hw' => D5.out w' hw') (fun w => by first | rfl | (go_simp; done)) ?_
  simp only [Act.put, List.setIfInBounds_toArray, List.set_cons_succ, List.set_cons_zero]
  refine WG.put rfl (v := .bool false) (fun w => by first | rfl | (go_simp; done) | (simp [go_sem]; done)) ?_
  simp only [Act.put, List.setIfInBounds_toArray, List.set_cons_succ, List.set_cons_zero]
  refine WG.put rfl (v := .bool false) (fun w => by first | rfl | (go_simp; done) | (simp [go_sem]; done)) ?_
  simp only [Act.put, List.setIfInBounds_toArray, List.set_cons_succ, List.set_cons_zero]
  refine WG.nil (fun We hwe => ?_)
  clear D1 D2 D3 D4 D5 E1 E2 E4
  by_cases h0 : n = 0
  · subst h0
    have HBe : Hid (Below w.heap.size w We) := Below.then HBc.out (Below.then HBd.out hwe)
    have SB : Hid (Seg We a2 (L.flatMap evL)) := own_seg2 (own_below HOb.out hwe)
    have SW : Hid (Seg We a3 (L.flatMap evL)) := own_seg2 (own_below HOw.out hwe)
    clear hwe
    go_wp2
    go_loopw [18] (fun i wr => i = .int .i64 0 ∧ wr = We) (fun i _ => 0)
    case atStart => exact ⟨rfl, rfl⟩
    case round =>
      obtain ⟨rfl, rfl⟩ := hrel
      go_wp2_with (first
        | (go_at_call 14; refine (sameEvents_any L 0 HN.out (by omega) _ _ _ _ _ SB.out SW.out).mono ?_; rintro en Wf ⟨rfl, Bf⟩))
      go_ret
      exact ⟨rfl, Below.then HBe.out Bf⟩
  · obtain ⟨g, cs, eg, Ig, hcl, htk⟩ : ∃ g cs, a1 = some ⟨g, 0, none⟩ ∧ IsS Wd g 32 cs ∧ n * 5 ≤ cs.length ∧ cs.take (n * 5) = L.flatMap evL := by
      rcases HOa.out.2 with ⟨h1, h2⟩ | ⟨g, cap, cur, hv, hg, hh, hc, hm, hsz, htk⟩
      · exact absurd h2 h0
      · cases hv
        exact ⟨g, cur.toList, rfl, hh, by rw [Array.length_toList, hsz]; exact Nat.mul_le_mul_right 5 hc, htk⟩
    subst eg
    have X0 : LX Wc We g cs (.slice a2 n c2) (.slice a3 n c3) L Wa.heap.size Wb.heap.size :=
      ⟨Below.then HBd.out hwe, Ig.grown hwe, by rw [HN.out]; exact own_below HOb.out hwe, by rw [HN.out]; exact own_below HOw.out hwe, fun kk hk e => by have h1 := HGb.out kk hk; have h2 := (HGa.out g rfl).2; omega, fun kk hk e => by have h1 := HGw.out kk hk; have h2 := (HGa.out g rfl).2; omega, (HGa.out g rfl).1⟩
    have I0 : Hid (∀ j x, L[j]? = some x → ∀ (i : Nat) v, (evL x)[i]? = some v → cs[j * 5 + i]? = some v) := by
      intro j x hj i v hv
      have h1 := ev_at L j x hj i v hv
      rw [← htk, List.getElem?_take] at h1
      split at h1
      · exact h1
      · cases h1
    clear hwe Ig htk HOa HOb HOw HGa HGb HGw
    go_wp2
    go_loopw [18] (fun i wr => ∃ (k : Nat) (cs' : List Value), k ≤ n ∧ i = .int .i64 (k : Int) ∧ LX Wc wr g cs' (.slice a2 n c2) (.slice a3 n c3) L Wa.heap.size Wb.heap.size ∧ n * 5 ≤ cs'.length ∧ Hid (∀ j x, k ≤ j → L[j]? = some x → ∀ (i : Nat) v, (evL x)[i]? = some v → cs'[j * 5 + i]? = some v)) (fun i _ => n - (intOf i).toNat)
    case atStart => exact ⟨0, cs, Nat.zero_le _, rfl, X0, hcl, fun j x _ hj => I0.out j x hj⟩
    case round =>
      clear X0 I0 hcl
      obtain ⟨k, cs', hk, rfl, X, hcl, HI⟩ := hrel
      by_cases hlt : k < n
      · have hki : (k : Int) < n := by omega
        obtain ⟨x, hx⟩ : ∃ q, L[k]? = some q := ⟨_, List.getElem?_eq_getElem (by rw [HN.out]; exact hlt)⟩
        have hxN : EvN x := HNs.out x (List.mem_of_getElem? hx)
        have rx : wr.rangeAt g (0 + k * 5) (evL x) := fun i v hv => by
          rw [show 0 + k * 5 + i = k * 5 + i by omega, X.a.cell]
          exact HI.out k x (Nat.le_refl _) hx i v hv
        have hbg : g < wr.heap.size := X.a.lt
        have E1 : Hid (IsS wr b1 28 [vt, vr, vl, vi, vj]) := HC1.out.grown X.bel
        have E4 : Hid (IsS wr b4 28 [ut, ur, ul, ui, uj]) := HC4.out.grown X.bel
        have D3 : Hid (∀ W, Below wr.heap.size wr W → Calls Tryd.prog 15 #[.agg #[ut, ur, ul, ui, uj], .agg (evL x).toArray] W fun en w' => en = .returned (.string (txT p.locs x)) ∧ Below W.heap.size W w') := fun W h => text_ev p HSZ.out x hxN _ _ _ _ _ W (QC.out.below (Below.then X.bel h)) (HTC.out.below (Below.then X.bel h))
        have D4 : Hid (∀ W, Below wr.heap.size wr W → Calls Tryd.prog 16 #[.agg #[vt, vr, vl, vi, vj], .agg (evL x).toArray] W fun en w' => en = .returned (.string (txT p.locs x)) ∧ Below W.heap.size W w') := fun W h => rtext_ev p HSZ.out x hxN _ _ _ _ _ W (PC.out.below (Below.then X.bel h))
        generalize txT p.locs x = TY at *
        clear hx hxN
        have HX : Hid (LX Wc wr g cs' (.slice a2 n c2) (.slice a3 n c3) L Wa.heap.size Wb.heap.size) := X
        clear X
        go_wp2
        refine grow_allW (by kernel_rfl) (by kernel_rfl) ?_
        refine WG.row rfl 28 _ rfl rfl E4.out _ rfl _ Tryd.underlying28 rfl infoPg ?_
        simp only [Act.put, List.setIfInBounds_toArray, List.set_cons_succ, List.set_cons_zero]
        refine WG.put rfl (v := (.slice (some ⟨g, 0, none⟩) n c1)) (fun w => by first | rfl | (go_simp; done) | (simp [go_sem, hki]; done) | (simp [execOp, go_sem, hki]; done)) ?_
        simp only [Act.put, List.setIfInBounds_toArray, List.set_cons_succ, List.set_cons_zero]
        refine WG.put rfl (v := (.int .i64 (k : Int))) (fun w => by first | rfl | (go_simp; done) | (simp [go_sem, hki]; done) | (simp [execOp, go_sem, hki]; done)) ?_
        simp only [Act.put, List.setIfInBounds_toArray, List.set_cons_succ, List.set_cons_zero]
        refine WG.put rfl (v := (.pointer (some ⟨g, 0 + k * 5, none⟩))) (fun w => by first | rfl | (go_simp; done) | (simp [go_sem, hki]; done) | (simp [execOp, go_sem, hki]; done)) ?_
        simp only [Act.put, List.setIfInBounds_toArray, List.set_cons_succ, List.set_cons_zero]
        refine WG.range rfl 32 _ rfl rfl (evL x) hbg rx _ Tryd.underlying32 rfl infoEv ?_
        simp only [Act.put, List.setIfInBounds_toArray, List.set_cons_succ, List.set_cons_zero]
        refine WG.call rfl (fun w' hw' => D3.out w' hw') (fun w => by first | rfl | (go_simp; done)) ?_
        simp only [Act.put, List.setIfInBounds_toArray, List.set_cons_succ, List.set_cons_zero]
        refine WG.row rfl 28 _ rfl rfl E1.out _ rfl _ Tryd.underlying28 rfl infoPg ?_
        simp only [Act.put, List.setIfInBounds_toArray, List.set_cons_succ, List.set_cons_zero]
        refine WG.put rfl (v := (.slice (some ⟨g, 0, none⟩) n c1)) (fun w => by first | rfl | (go_simp; done) | (simp [go_sem, hki]; done) | (simp [execOp, go_sem, hki]; done)) ?_
        simp only [Act.put, List.setIfInBounds_toArray, List.set_cons_succ, List.set_cons_zero]
        refine WG.put rfl (v := (.int .i64 (k : Int))) (fun w => by first | rfl | (go_simp; done) | (simp [go_sem, hki]; done) | (simp [execOp, go_sem, hki]; done)) ?_
        simp only [Act.put, List.setIfInBounds_toArray, List.set_cons_succ, List.set_cons_zero]
        refine WG.put rfl (v := (.pointer (some ⟨g, 0 + k * 5, none⟩))) (fun w => by first | rfl | (go_simp; done) | (simp [go_sem, hki]; done) | (simp [execOp, go_sem, hki]; done)) ?_
        simp only [Act.put, List.setIfInBounds_toArray, List.set_cons_succ, List.set_cons_zero]
        refine WG.range rfl 32 _ rfl rfl (evL x) hbg rx _ Tryd.underlying32 rfl infoEv ?_
        simp only [Act.put, List.setIfInBounds_toArray, List.set_cons_succ, List.set_cons_zero]
        refine WG.call rfl (fun w' hw' => D4.out w' hw') (fun w => by first | rfl | (go_simp; done)) ?_
        simp only [Act.put, List.setIfInBounds_toArray, List.set_cons_succ, List.set_cons_zero]
        refine WG.put rfl (v := (.bool false)) (fun w => by first | rfl | (go_simp; done) | (simp [go_sem, hki]; done) | (simp [execOp, go_sem, hki]; done)) ?_
        simp only [Act.put, List.setIfInBounds_toArray, List.set_cons_succ, List.set_cons_zero]
        refine WG.nil (fun Wf hwf => ?_)
        have Y := HX.out.below hwf
        clear HX hwf D3 D4 E1 E4 rx hbg
        go_wp2_with (first
          | (refine wpList_bD rfl rfl ?_)
          | (refine wpList_storeEv rfl _ _ rfl rfl ⟨-1, 0, 0, 0, false⟩ rfl Y.a (by omega) ?_; intro Wg cs2 Ug hl2 hc2 Ig; have Z := Y.upd Ug Ig; clear Ug Ig Y))
        go_roundw
        case rel => exact ⟨k + 1, cs2, by omega, by simp, Z, by omega, fun j x hj hx i v hv => (hc2 _ (by omega)).trans (HI.out j x (by omega) hx i v hv)⟩
        case measure => simp [intOf]; omega
      · obtain rfl : k = n := by omega
        have hki : ¬ (k : Int) < k := by omega
        have SB : Hid (Seg wr a2 (L.flatMap evL)) := own_seg2 (HN.out ▸ X.b)
        have SW : Hid (Seg wr a3 (L.flatMap evL)) := own_seg2 (HN.out ▸ X.w)
        have HBe : Hid (Below w.heap.size w wr) := Below.then HBc.out X.bel
        clear X HI
        go_wp2_with (first
          | (go_at_call 14; refine (sameEvents_any L k HN.out (by omega) _ _ _ _ _ SB.out SW.out).mono ?_; rintro en Wf ⟨rfl, Bf⟩))
        go_ret
        exact ⟨rfl, Below.then HBe.out Bf⟩
end Go.Proofs.YtdneaaegllpnlaaDoor
/- EventLists, the tied card of the second form: for every program, every set of failing tries and every event that hold, their texts' letters and all, at most 1048576 values the law returns true and leaves its arguments as they were, where the library's tables that the row lists hold at the call what the program's text lays there. -/
namespace Go.Proofs.YtdneaaegllpnlaaDoor
open Go.ChangeShapes Go.WideShapes Go.ChangeAt Go.RowKit M
set_option linter.unusedSimpArgs false
set_option linter.unusedVariables false

theorem own : ownKnob Tryd.prog.godebug = none := by kernel_rfl
theorem laidOut : laidOutB Tryd.prog = true := by kernel_rfl
theorem cells4 : Tryd.prog.cellsOf 4 = 1 := by kernel_rfl
theorem cellsEv : Tryd.prog.cellsOf 32 = 5 := by kernel_rfl
theorem ev_N {k0 k1 k2 k3 : Int} {k4 : Bool} (h1 : (Lit.int .i64 k1).wf = true) (h2 : (Lit.int .i64 k2).wf = true) : EvN ⟨k0, k1, k2, k3, k4⟩ := by
  have b1 : (decide (IntKind.i64.min ≤ k1) && decide (k1 ≤ IntKind.i64.max)) = true := h1
  have b2 : (decide (IntKind.i64.min ≤ k2) && decide (k2 ≤ IntKind.i64.max)) = true := h2
  rw [Bool.and_eq_true, decide_eq_true_iff, decide_eq_true_iff] at b1 b2
  have m : IntKind.i64.min = -9223372036854775808 := by decide
  have M : IntKind.i64.max = 9223372036854775807 := by decide
  show -9223372036854775808 ≤ k1 ∧ k1 ≤ 9223372036854775807 ∧ -9223372036854775808 ≤ k2 ∧ k2 ≤ 9223372036854775807
  omega
theorem set_nat {f : Int} (h : (Lit.int .u64 f).wf = true) : ∃ n : Nat, f = (n : Int) ∧ n < 18446744073709551616 := by
  have b1 : (decide (IntKind.u64.min ≤ f) && decide (f ≤ IntKind.u64.max)) = true := h
  rw [Bool.and_eq_true, decide_eq_true_iff, decide_eq_true_iff] at b1
  have m : IntKind.u64.min = 0 := by decide
  have M : IntKind.u64.max = 18446744073709551615 := by decide
  exact ⟨f.toNat, by omega, by omega⟩
theorem le_sum {xs : List ByteArray} {s : ByteArray} (h : s ∈ xs) : s.size ≤ (xs.map fun s => s.size).sum := by
  induction xs with
  | nil => cases h
  | cons x xs ih =>
    rw [List.map_cons, List.sum_cons]
    rcases List.mem_cons.1 h with rfl | h
    · omega
    · have := ih h; omega
theorem gTen : Tryd.prog.globalNamed "internal/strconv.uint64pow10" = some 0 := by kernel_rfl
theorem tTen : (Tryd.prog.globals[0]?).map (·.type) = some 154 := by kernel_rfl
theorem cellsTen : Tryd.prog.cellsOf 154 = 20 := by kernel_rfl
theorem cellsU : Tryd.prog.cellsOf 29 = 1 := by kernel_rfl
theorem ten_of_met {W : World} {rest : List (String × DataW Unit)} (h1 : laidMet Tryd.prog (("internal/strconv.uint64pow10", Lib.tabData .u64 Lib.pow10Tab) :: rest) W) : Tab10 W :=
  Lib.tabIs_of_head gTen tTen Tryd.underlying154 Tryd.underlying29 cellsU cellsTen h1
theorem ten_of_laid {W : World} (h : laidMetH Tryd.prog Rows.eventListsUptoRow.laid W) : Tab10 W := by
  rw [MakeChecks.laidMetH_plain _ _ _ (by kernel_rfl)] at h
  exact ten_of_met (laidMet.tail (laidMet.tail h))
section
variable {H : Type} {enc : TypeId × Value → H} {W : World}
/-- A program, read. -/
theorem open_pg (fuel : Nat) (cs : List Value) (x : DataW H × List MemPlace) (hbk : Rows.uptoBulk x.1 ≤ 1048576) (h : DataW.trod enc Tryd.prog W 0 (fun _ => true) true fuel 28 cs = some x) :
    ∃ (p : PG) (vt vr vl vi vj : Value), cs = [vt, vr, vl, vi, vj] ∧ p.Few ∧ PGV W vt vr vl vi vj p ∧ ∀ s ∈ p.locs, s.size ≤ 1048576 := by
  obtain ⟨ys, n, _, hx, hcl, hyl, hall⟩ := DataW.trod_struct Tryd.underlying28 h
  rw [cellsPg] at hcl
  match ys, hyl, hx, hall with
  | [y0, y1, y2, y3, y4], _, hx, hall =>
    have g0 : DataW.trod enc Tryd.prog W 0 (fun _ => true) true n 22 (List.take (Tryd.prog.cellsOf 22) (List.drop 0 cs)) = some y0 := hall 0 _ rfl
    have g1 : DataW.trod enc Tryd.prog W 0 (fun _ => true) true n 23 (List.take (Tryd.prog.cellsOf 23) (List.drop 1 cs)) = some y1 := hall 1 _ rfl
    have g2 : DataW.trod enc Tryd.prog W 0 (fun _ => true) true n 24 (List.take (Tryd.prog.cellsOf 24) (List.drop 2 cs)) = some y2 := hall 2 _ rfl
    have g3 : DataW.trod enc Tryd.prog W 0 (fun _ => true) true n 25 (List.take (Tryd.prog.cellsOf 25) (List.drop 3 cs)) = some y3 := hall 3 _ rfl
    have g4 : DataW.trod enc Tryd.prog W 0 (fun _ => true) true n 26 (List.take (Tryd.prog.cellsOf 26) (List.drop 4 cs)) = some y4 := hall 4 _ rfl
    rw [cellsSSO] at g0
    rw [cellsSSS] at g1
    rw [cellsSS] at g2
    rw [cellsSSI] at g3
    rw [cellsSI] at g4
    have bm : ∀ y ∈ [y0, y1, y2, y3, y4], Rows.uptoBulk y.1 ≤ 1048576 := fun y hy => by
      have := bulk_mem ([y0, y1, y2, y3, y4].map (·.1)) y.1 (List.mem_map.2 ⟨y, hy, rfl⟩)
      rw [hx] at hbk
      simp only [Rows.uptoBulk] at hbk
      omega
    have b0 := bm y0 (by simp)
    have b1 := bm y1 (by simp)
    have b2 := bm y2 (by simp)
    have b3 := bm y3 (by simp)
    have b4 := bm y4 (by simp)
    obtain ⟨at', xt, ct, e0, s0, p0, l0, m0, n0⟩ := open_sl (none, 0, []) Tryd.underlying22 cellsSO (by decide) rowE (fun _ => rfl) (RowP W op5L fun _ => True) (fun g => g.2.2.length) (open_row ⟨0, 0, 0, 0, 0⟩ Tryd.underlying73 cellsOp (by decide) op5L (fun _ => rfl) (fun _ => True) open_op1) g0
    obtain ⟨ar, xr, cr, e1, s1, p1, l1, m1, n1⟩ := open_sl (none, 0, []) Tryd.underlying23 cellsSS (by decide) rowE (fun _ => rfl) (RowP W strE fun s => s.size ≤ maxLen) (fun g => g.2.2.length) (open_row ⟨#[]⟩ Tryd.underlying24 cells9 (by decide) strE (fun _ => rfl) (fun s => s.size ≤ maxLen) open_str1) g1
    obtain ⟨al, xl, cl, e2, s2, p2, l2, m2, n2⟩ := open_sl ⟨#[]⟩ Tryd.underlying24 cells9 (by decide) strE (fun _ => rfl) (fun s => s.size ≤ maxLen) (fun s => s.size) open_str2 g2
    obtain ⟨ai, xi, ci, e3, s3, p3, l3, m3, n3⟩ := open_sl (none, 0, []) Tryd.underlying25 cellsSI (by decide) rowE (fun _ => rfl) (RowP W intE fun _ => True) (fun g => g.2.2.length) (open_row 0 Tryd.underlying26 cells2 (by decide) intE (fun _ => rfl) (fun _ => True) open_int1) g3
    obtain ⟨aj, xj, cj, e4, s4, p4, l4, _, n4⟩ := open_sl 0 Tryd.underlying26 cells2 (by decide) intE (fun _ => rfl) (fun _ => True) (fun _ => 1) open_int1 g4
    refine ⟨⟨xt.map (·.2.2), xr.map (·.2.2), xl, xi.map (·.2.2), xj⟩, .slice at' (xt.map (·.2.2)).length ct, .slice ar (xr.map (·.2.2)).length cr, .slice al xl.length cl, .slice ai (xi.map (·.2.2)).length ci, .slice aj xj.length cj, ?_, ?_, ?_, ?_⟩
    · simp only [List.length_map]
      exact list5 hcl (take_one e0) (take_one e1) (take_one e2) (take_one e3) (take_one e4)
    · have fl : ∀ {β : Type} (xs : List (RowA β)), (xs.map (·.2.2)).flatten.length = (xs.map fun g => g.2.2.length).sum := fun xs => by rw [List.length_flatten, List.map_map]; rfl
      refine ⟨?_, ?_, ?_, ?_, ?_, ?_, ?_, ?_, ?_, ?_⟩
      · show (xt.map _).length ≤ _; rw [List.length_map]; omega
      · show (xt.map (·.2.2)).flatten.length ≤ _; rw [fl]; exact Nat.le_trans m0 b0
      · show (xr.map _).length ≤ _; rw [List.length_map]; omega
      · show (xr.map (·.2.2)).flatten.length ≤ _; rw [fl]; exact Nat.le_trans m1 b1
      · show xl.length ≤ _; omega
      · show (xi.map _).length ≤ _; rw [List.length_map]; omega
      · show (xi.map (·.2.2)).flatten.length ≤ _; rw [fl]; exact Nat.le_trans m3 b3
      · show xj.length ≤ _; omega
      · intro l hl s hs
        obtain ⟨g, hg, rfl⟩ := List.mem_map.1 hl
        exact (p1 g hg).2.2 s hs
      · exact fun s hs => p2 s hs
    · exact ⟨rows_of s0 p0 n0, rows_of s1 p1 n1, ⟨al, cl, rfl, s2, n2⟩, rows_of s3 p3 n3, ⟨aj, cj, rfl, s4, n4⟩⟩
    · intro s hs
      have h1 : s.size ≤ (xl.map fun s => s.size).sum := le_sum hs
      exact Nat.le_trans h1 (Nat.le_trans m2 b2)
/-- An event, read. -/
theorem open_ev (fuel : Nat) (cs : List Value) (x : DataW H × List MemPlace) (h : DataW.trod enc Tryd.prog W 0 (fun _ => true) true fuel 32 cs = some x) : ∃ g : EV, cs = evL g ∧ EvN g := by
  obtain ⟨ys, n, _, hx, hcl, hyl, hall⟩ := DataW.trod_struct Tryd.underlying32 h
  rw [cellsEv] at hcl
  match ys, hyl, hx, hall with
  | [y0, y1, y2, y3, y4], _, hx, hall =>
    have g0 : DataW.trod enc Tryd.prog W 0 (fun _ => true) true n 3 (List.take (Tryd.prog.cellsOf 3) (List.drop 0 cs)) = some y0 := hall 0 _ rfl
    have g1 : DataW.trod enc Tryd.prog W 0 (fun _ => true) true n 3 (List.take (Tryd.prog.cellsOf 3) (List.drop 1 cs)) = some y1 := hall 1 _ rfl
    have g2 : DataW.trod enc Tryd.prog W 0 (fun _ => true) true n 3 (List.take (Tryd.prog.cellsOf 3) (List.drop 2 cs)) = some y2 := hall 2 _ rfl
    have g3 : DataW.trod enc Tryd.prog W 0 (fun _ => true) true n 3 (List.take (Tryd.prog.cellsOf 3) (List.drop 3 cs)) = some y3 := hall 3 _ rfl
    have g4 : DataW.trod enc Tryd.prog W 0 (fun _ => true) true n 4 (List.take (Tryd.prog.cellsOf 4) (List.drop 4 cs)) = some y4 := hall 4 _ rfl
    rw [cells3] at g0 g1 g2 g3
    rw [cells4] at g4
    obtain ⟨k0, e0, _, _⟩ := DataW.trod_int Tryd.underlying3 g0
    obtain ⟨k1, e1, _, w1⟩ := DataW.trod_int Tryd.underlying3 g1
    obtain ⟨k2, e2, _, w2⟩ := DataW.trod_int Tryd.underlying3 g2
    obtain ⟨k3, e3, _, _⟩ := DataW.trod_int Tryd.underlying3 g3
    obtain ⟨k4, e4, _⟩ := DataW.trod_bool Tryd.underlying4 g4
    exact ⟨⟨k0, k1, k2, k3, k4⟩, list5 hcl (take_one e0) (take_one e1) (take_one e2) (take_one e3) (take_one e4), ev_N w1 w2⟩
end
set_option maxRecDepth 100000 in
set_option maxHeartbeats 800000 in
theorem contract (H : Type) (enc : TypeId × Value → H) (W : World) (base : Nat) (args : Array Value) (ds gs : List (DataW H)) (before : List MemPlace)
    (hval0 : ∀ (j : Nat) t v, Tryd.f3.params[j]? = some t → args[j]? = some v → Value.okWide Tryd.prog W .any base t v)
    (hW : DataW.Whole enc Tryd.prog Tryd.f3.params.toList Rows.eventListsSpec.vars false W args.toList ds gs before) (hk : Rows.uptoSmall H (ds ++ gs) = true) (hL : laidMetH Tryd.prog Rows.eventListsUptoRow.laid W) :
    Calls Tryd.prog 3 args W fun e W' => ∃ v, e = .returned v ∧ Rows.eventListsSpec.post enc Tryd.prog Tryd.f3 false true false false W args v W' := by
  have hval : ∀ (j : Nat) t v, Tryd.f3.params[j]? = some t → args[j]? = some v → Value.okWide Tryd.prog W .any base t v := hval0
  have hW' := hW
  obtain ⟨p, q, hA0, hV, rfl, hfz, hnd⟩ := hW
  have hA : DataW.TrodAll enc Tryd.prog W 0 (fun _ => true) true Tryd.f3.params.toList args.toList ds p := hA0
  rw [Tryd.params3] at hA hval
  obtain ⟨v0, vs0, d0, ds0, p0, q0, hargs, rfl, rfl, h0, r0⟩ := trodAll_cons hA
  obtain ⟨v1, vs1, d1, ds1, p1, q1, rfl, rfl, rfl, h1, r1⟩ := trodAll_cons r0
  obtain ⟨v2, vs2, d2, ds2, p2, q2, rfl, rfl, rfl, h2, r2⟩ := trodAll_cons r1
  obtain ⟨rfl, rfl, rfl⟩ := trodAll_nil r2
  obtain rfl : args = #[v0, v1, v2] := by cases args; simp_all
  obtain ⟨rfl, rfl⟩ := trodVars_none hV
  obtain ⟨c0, rfl, _⟩ := okWide_struct Tryd.underlying28 (hval 0 28 v0 rfl rfl)
  obtain ⟨fz, rfl, rfl, rfl, w1⟩ := open_int Tryd.underlying30 (hval 1 30 v1 rfl rfl) h1
  obtain ⟨c2, rfl, _⟩ := okWide_struct Tryd.underlying32 (hval 2 32 v2 rfl rfl)
  have k0 := h0
  have lt0 : ∀ x ∈ p0, x.block < W.heap.size := by obtain ⟨m, hm⟩ := k0; exact DataW.trod_lt m _ _ _ hm
  have k2 := h2
  have lt2 : ∀ x ∈ p2, x.block < W.heap.size := by obtain ⟨m, hm⟩ := k2; exact DataW.trod_lt m _ _ _ hm
  simp only [List.append_nil] at hk
  have hbk : Rows.uptoBulk d0 ≤ 1048576 := by
    have h := of_decide_eq_true hk
    simp only [Rows.uptoBulkAll] at h
    omega
  have hTab := ten_of_laid hL
  obtain ⟨f, rfl, hf64⟩ : ∃ f : Nat, fz = (f : Int) ∧ f < 18446744073709551616 := set_nat w1
  have fin : Calls Tryd.prog 3 #[.agg c0, .int .u64 (f : Int), .agg c2] W fun e w' => e = .returned (.bool true) ∧ Below W.heap.size W w' := by
    obtain ⟨fu, hf⟩ := h0
    obtain ⟨fv, hg⟩ := h2
    obtain ⟨pg, vt, vr, vl, vi, vj, e0, few, hp, hsz⟩ := open_pg _ _ _ hbk hf
    obtain ⟨x, e1, hx⟩ := open_ev _ _ _ hg
    have e0' : c0 = #[vt, vr, vl, vi, vj] := by simp [Value.cells] at e0; rw [← Array.toArray_toList (xs := c0), e0]
    have e1' : c2 = (evL x).toArray := by simp [Value.cells] at e1; rw [← Array.toArray_toList (xs := c2), e1]
    rw [e0', e1']
    exact eventLists_any pg few hsz f hf64 x hx vt vr vl vi vj W hp hTab
  clear hA0 hval0
  refine fin.mono fun e W' ⟨he, bel⟩ => ?_
  subst he
  exact ⟨_, rfl, _, _, _, [], _, [], hW', trodAll_mk1 (shut_bool Tryd.underlying4 _), (trodAll_cons_mk (Below.trod laidOut (by kernel_rfl) (of_decide_eq_true (by kernel_rfl)) k0 bel lt0) (trodAll_cons_mk (shut_int Tryd.underlying30 w1) (trodAll_cons_mk (Below.trod laidOut (by kernel_rfl) (of_decide_eq_true (by kernel_rfl)) k2 bel lt2) trodAll_mk0))), rfl, bel.frame _, fun h => by cases h⟩

theorem door_met (os : Os) (args : Array Value) : laidMet Tryd.prog Rows.eventListsUptoRow.laid ((World.doorLaid Tryd.prog 400 os).forCall (fun _ _ => 0) ⟨#[], args, []⟩).memory :=
  laidMet_of_run' 8 (by kernel_rfl) (by kernel_rfl)
theorem reads (os : Os) {H : Type} (enc : TypeId × Value → H) : ∃ places, DataW.whole enc Tryd.prog ((World.doorLaid Tryd.prog 400 os).forCall (fun _ _ => 0) ⟨#[], #[.agg #[.slice none 0 0, .slice none 0 0, .slice none 0 0, .slice none 0 0, .slice none 0 0], .int .u64 0, .agg #[.int .i64 0, .int .i64 0, .int .i64 0, .int .i64 0, .bool false]], []⟩).memory Tryd.f3.params.toList Rows.eventListsSpec.vars false #[Value.agg #[.slice none 0 0, .slice none 0 0, .slice none 0 0, .slice none 0 0, .slice none 0 0], .int .u64 0, .agg #[.int .i64 0, .int .i64 0, .int .i64 0, .int .i64 0, .bool false]].toList 8 = some ([.agg [.nil, .nil, .nil, .nil, .nil], .lit (.int .u64 0), .agg [.lit (.int .i64 0), .lit (.int .i64 0), .lit (.int .i64 0), .lit (.int .i64 0), .lit (.bool false)]], [], places) :=
  ⟨[], by kernel_rfl⟩
set_option maxRecDepth 100000 in
theorem liftedUpto (os : Os) (started : os.Started) (H : Type) (enc : TypeId × Value → H) (F : Stop.Interp) :
    ReturnsInHanded {} Tryd.checked os 3 .any ((Rows.OpenSpec.upto Rows.eventListsSpec).preRow enc Tryd.prog Tryd.f3 Rows.eventListsUptoRow.domain false Rows.eventListsUptoRow.laid) (((Rows.OpenSpec.upto Rows.eventListsSpec).at F).post enc Tryd.prog Tryd.f3 false true false false) := by
  obtain ⟨places, hx⟩ := reads os enc
  refine returnsInHanded_of_row (C := Tryd.checked) (s := Rows.OpenSpec.upto Rows.eventListsSpec) own started (by kernel_rfl) Tryd.func3
    (witness_row_at (enc := enc) (C := Tryd.checked) false (World.doorLaid Tryd.prog 400 os) #[.agg #[.slice none 0 0, .slice none 0 0, .slice none 0 0, .slice none 0 0, .slice none 0 0], .int .u64 0, .agg #[.int .i64 0, .int .i64 0, .int .i64 0, .int .i64 0, .bool false]] rfl (by kernel_rfl) (by kernel_rfl) (by kernel_rfl)
      (OpenSpec.preRow_of_cond 8 hx (by kernel_rfl) (fun k hk => by cases hk; kernel_rfl) (by kernel_rfl) (door_met os _))) ?_
  intro W base args ds gs before hval hW _ hcond _ hL _ _
  exact contract H enc W base args ds gs before hval hW (hcond _ rfl) hL
theorem saidUpto : Rows.EventListsUptoSaid :=
  OpenClaim.holds_of_cond 3 Tryd.f3 rfl rfl rfl rfl rfl rfl rfl ⟨rfl, rfl, rfl, rfl, rfl⟩ rfl rfl rfl rfl rfl (by kernel_rfl) Tryd.func3 (by kernel_rfl)
    (of_decide_eq_true (by kernel_rfl)) (by unfold Func.isWrapper; first | (rw [if_pos (by decide +kernel)]; kernel_rfl) | (rw [if_neg (by decide +kernel)]; exact ⟨rfl, rfl⟩))
    (fun os started H enc _ F => by rw [OpenClaim.pre_eq_preRow]; exact liftedUpto os started H enc F)
theorem plain (f : FuncId) (fn : Func) (hf : Tryd.pinned.checked.prog.funcNamed "weir/weirlaw17.EventLists" = some f) (hfn : Tryd.pinned.checked.prog.funcs[f]? = some fn) :
    false = Tryd.pinned.checked.prog.looks [] ∧ ∀ (j : Nat) t, fn.params[j]? = some t → Tryd.pinned.checked.prog.wantsStandIn t = false := by
  obtain rfl : f = 3 := Option.some.inj ((show Tryd.prog.funcNamed "weir/weirlaw17.EventLists" = some 3 by kernel_rfl).symm.trans hf) |>.symm
  obtain rfl : fn = Tryd.f3 := (Option.some.inj (Tryd.func3.symm.trans hfn)).symm
  refine ⟨by kernel_rfl, fun j t ht => ?_⟩
  rw [Tryd.params3] at ht
  have hm : t ∈ [28, 30, 32] := by simpa using Array.mem_of_getElem? ht
  have hall : ([28, 30, 32].all fun u => !Tryd.prog.wantsStandIn u) = true := by kernel_rfl
  exact (show Tryd.prog.wantsStandIn t = false by simpa using List.all_eq_true.1 hall t hm)
theorem eventLists_holds : Rows.EventListsUptoCardSaid :=
  Claim7.holds_tied_plain_at .later [] _ _ _ _ saidUpto (fun _ h => by cases h) (by kernel_rfl) (fun _ h => by cases h) eventListsUpto_row_tie rfl ⟨rfl, rfl⟩ (by kernel_rfl) rfl plain (by kernel_rfl)
#print axioms eventLists_holds
end Go.Proofs.YtdneaaegllpnlaaDoor

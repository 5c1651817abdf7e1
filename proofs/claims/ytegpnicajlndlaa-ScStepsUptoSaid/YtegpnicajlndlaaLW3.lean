/- LW3 -/
import Derived.Test.YtegpnicajlndlaaLW2
namespace Go.Proofs.Ytegpnicajlndlaa
open Go.RowKit M
set_option linter.unusedSimpArgs false
set_option linter.unusedVariables false
theorem exec_neqPk2 {w : World} {op : Oper} {a : Act} {x y : Operand} {i j kd lc : Int} (ho : op.op = .binOp .neq 68 x y 68) (hx : a.eval x = .agg #[.int .i64 i, .int .i64 1, .int .i64 0]) (hy : a.eval y = .agg #[.int .i64 j, .int .i64 kd, .int .i64 lc]) (hno : ¬ (kd = 1 ∧ lc = 0)) : (execOp a.eval op).run Try.prog w = .ok (.value (.bool true)) w := by
 generalize a.eval = ev at hx hy ⊢
 unfold execOp
 simp [ho, hx, hy, go_sem]
 by_cases h : i = j
 · by_cases h1 : kd = 1
   · have h2 : ¬ lc = 0 := fun e => hno ⟨h1, e⟩
     have h2' : ¬ 0 = lc := fun e => h2 e.symm
     simp [h, h1, h2, h2']
   · have h1' : ¬ 1 = kd := fun e => h1 e.symm
     simp [h, h1, h1']
 · simp [h]
set_option maxRecDepth 100000 in
set_option maxHeartbeats 4000000 in
theorem rstep_other (p : PG) (hv : Vld p) (hf : p.Few) (pc : List Int) (regs : List (List Int)) (mem : List Int) (hI : Inv p pc regs mem) (i : Int) (n nm ct cp ch cr cm cb : Nat) (at0 ap ah ar am ab : Option Addr) (vr vl vi vj : Value) (w : World) (hn0 : p.threads.length = n) (hnm : mem.length = nm)
    (hT : RowsV w (.slice at0 n ct) op5L p.threads) (hS : RS w (.slice ap n cp) (.slice ah n ch) (.slice ar n cr) (.slice am nm cm) (.slice ab n cb) n pc regs mem) (kd lc : Int) (hno : ¬ (kd = 1 ∧ lc = 0)) :
    Calls Try.prog 23 #[.agg #[.slice at0 n ct, vr, vl, vi, vj], .agg #[.slice ap n cp, .slice ah n ch, .slice ar n cr, .slice am nm cm, .slice ab n cb, .int .i64 (-1)], .agg #[.int .i64 i, .int .i64 kd, .int .i64 lc]] w fun e w' => e = .returned (.tuple #[.agg [.slice none 0 0, .slice none 0 0, .slice none 0 0, .slice none 0 0, .slice none 0 0, .int .i64 0].toArray, .bool false]) ∧ Below w.heap.size w w' := by
 have hf' := hf
 obtain ⟨ni, hni⟩ : ∃ k, p.threads.length = k := ⟨_, rfl⟩
 have HT : Hid (RowsV w (.slice at0 n ct) op5L p.threads) := hT
 have HS : Hid (RS w (.slice ap n cp) (.slice ah n ch) (.slice ar n cr) (.slice am nm cm) (.slice ab n cb) n pc regs mem) := hS
 have hseg := fun W (h : RS W (.slice ap n cp) (.slice ah n ch) (.slice ar n cr) (.slice am nm cm) (.slice ab n cb) n pc regs mem) => (row_seg h.pc)
 have hpk := fun W (hB : Below w.heap.size w W) => rpicks_any p.threads pc n ct cp ch cb at0 ap ah ab vr vl vi vj (.slice ar n cr) (.slice am nm cm) W rfl rfl hn0 (hI.pl.trans hn0) (by rw [← hn0]; exact hf.t) hf.tt (hT.below hB) (row_seg (hS.below hB).pc) (hS.below hB).ph (hS.below hB).bf
 obtain ⟨L, hL⟩ : ∃ l, pksL p.threads pc n = l := ⟨_, rfl⟩
 have HLl : Hid (pksL p.threads pc n = L) := hL
 have hll0 := pks_len p.threads pc n
 rw [hL] at hpk hll0
 obtain ⟨ll, hll⟩ : ∃ l, L.length = l := ⟨_, rfl⟩
 have HLL : Hid (L.length = ll) := hll
 rw [hll] at hpk hll0
 have hnle : n ≤ 1048576 := by rw [← hn0]; exact hf.t
 have hllI : (ll : Int) ≤ 1048576 := by omega
 have HNo : Hid (¬ (kd = 1 ∧ lc = 0)) := hno
 clear hT hS hL hll hseg hni hI hno hf hf' hv
 have t1 : True := trivial
 have t2 : True := trivial
 have t3 : True := trivial
 have t4 : True := trivial
 have t5 : True := trivial
 have t6 : True := trivial
 go_enter Try.func23, Try.ntmps23
 go_wp2_with (first
  | (clear t1; refine wpList_boxS rfl 28 _ rfl [.slice at0 n ct, vr, vl, vi, vj] rfl ?_; intro V0 b3 F0 P0; have A0 := F_b F0; clear F0)
  | (clear t2; refine wpList_boxS rfl 32 _ rfl [.slice ap n cp, .slice ah n ch, .slice ar n cr, .slice am nm cm, .slice ab n cb, .int .i64 (-1)] rfl ?_; intro V1 b4 F1 S1; have A1 := F1.trans A0 A0.size; have P1 := P0.fresh F1; clear F1 P0)
  | (clear t3; refine wpList_boxS rfl 68 _ rfl [.int .i64 i, .int .i64 kd, .int .i64 lc] rfl ?_; intro V2 b5 F2 K2; have A2 := F2.trans A1 A1.size; have P2 := P1.fresh F2; have S2 := S1.fresh F2; clear F2 P1 S1)
  | (clear t4; refine wpList_allocS rfl 32 rfl [.slice none 0 0, .slice none 0 0, .slice none 0 0, .slice none 0 0, .slice none 0 0, .int .i64 0] zeroSt ?_; intro V3 b6 F3 R3; have A3 := F3.trans A2 A2.size; have P3 := P2.fresh F3; have S3 := S2.fresh F3; have K3 := K2.fresh F3; have hb6 : w.heap.size ≤ b6 := Nat.le_trans A2.size (Nat.le_of_eq F3.at'.symm); clear F3 P2 S2 K2)
  | (clear t5; refine wpList_loadW rfl 28 _ rfl rfl P3 _ Try.underlying28 rfl infoPg ?_)
  | (clear t6; refine wpList_loadW rfl 32 _ rfl rfl S3 _ Try.underlying32 rfl infoSt ?_)
  | (go_at_call 59; refine (hpk _ A3).mono ?_; rintro e V4 ⟨vL, rfl, OL, B4⟩; have A4 := Below.then A3 B4; have P4 := P3.grown B4; have S4 := S3.grown B4; have K4 := K3.grown B4; have R4 := R3.grown B4; clear hpk P3 S3 K3 R3))
 obtain ⟨aL, cl0, hvL⟩ := own_form OL
 subst hvL
 have SL4 := own_segI3 OL
 have HSL : Hid (Seg V4 aL (L.flatMap pkE)) := SL4
 have HP4 : Hid (IsS V4 b3 28 [.slice at0 n ct, vr, vl, vi, vj]) := P4
 have HS4 : Hid (IsS V4 b4 32 [.slice ap n cp, .slice ah n ch, .slice ar n cr, .slice am nm cm, .slice ab n cb, .int .i64 (-1)]) := S4
 have HK4 : Hid (IsS V4 b5 68 [.int .i64 i, .int .i64 kd, .int .i64 lc]) := K4
 have HR4 : Hid (IsS V4 b6 32 [.slice none 0 0, .slice none 0 0, .slice none 0 0, .slice none 0 0, .slice none 0 0, .int .i64 0]) := R4
 clear OL SL4 P4 S4 K4 R4
 go_loopw [9] (fun x wr => ∃ k : Nat, k ≤ ll ∧ x = .int .i64 (k : Int) ∧ Hid (Below V4.heap.size V4 wr)) (fun x _ => ll - (intOf x).toNat)
 case atStart => exact ⟨0, Nat.zero_le _, rfl, Below.refl _ _⟩
 case round =>
  obtain ⟨k, hk, rfl, HB⟩ := hrel
  by_cases hlt : k < ll
  · have hki : (k : Int) < ll := by omega
    obtain ⟨jk, hjk⟩ : ∃ j, L[k]? = some j := ⟨_, List.getElem?_eq_getElem (by rw [HLL.out]; exact hlt)⟩
    obtain ⟨bl, ol, rfl, hbl, hrg⟩ := pk_range (HSL.out.below HB.out) hjk
    have K5 := HK4.out.grown HB.out
    clear hjk
    go_wp2
    refine grow_allW (by kernel_rfl) (by kernel_rfl) ?_
    refine WG.put rfl (v := .slice (some ⟨bl, ol, none⟩) ll cl0) (fun w => by first | rfl | (go_simp; done) | (simp [go_sem]; done)) ?_; simp only [sP]
    refine WG.put rfl (v := .int .i64 (k : Int)) (fun w => by first | rfl | (go_simp; done) | (simp [go_sem]; done)) ?_; simp only [sP]
    refine WG.put rfl (v := .pointer (some ⟨bl, ol + k * 3, none⟩)) (fun w => by first | rfl | (go_simp; done) | (simp [go_sem, hki]; done)) ?_; simp only [sP]
    refine WG.range rfl 68 _ rfl rfl (pkE jk) hbl hrg _ Try.underlying68 rfl (infoPkE jk) ?_; simp only [sP]
    refine WG.row rfl 68 _ rfl rfl K5 [.int .i64 i, .int .i64 kd, .int .i64 lc] rfl _ Try.underlying68 rfl infoPk ?_; simp only [sP]
    refine WG.put rfl (v := .bool true) (fun w => exec_neqPk2 rfl rfl rfl HNo.out) ?_; simp only [sP]
    refine WG.nil ?_
    intro W5 B5
    clear K5 hrg
    go_wp2
    go_roundw
    case rel => exact ⟨k + 1, by omega, by go_num, Below.then HB.out B5⟩
    case measure => simp [intOf]; omega
  · have ek : k = ll := by omega
    subst ek
    have hki : ¬ ((k : Int) < k) := by omega
    have R5 := HR4.out.grown HB.out
    have B05 := Below.then A4 HB.out
    have ta : True := trivial
    go_wp2_with (first
     | (clear ta; refine wpList_b0St rfl rfl ?_)
     | (refine wpList_storeW rfl 32 _ _ rfl rfl [.slice none 0 0, .slice none 0 0, .slice none 0 0, .slice none 0 0, .slice none 0 0, .int .i64 0] rfl R5 rfl infoSt (by simp [Value.oneCell']) ?_; intro W8 U8 D8; have B08 := U8.trans B05 hb6; clear R5 U8))
    exact ret_ST rfl rfl rfl D8 _ Try.underlying32 rfl infoSt _ rfl ⟨rfl, B08⟩
def STk (Z : World) (s : ST) (v1 v2 v3 v4 v5 : Value) : Prop := ∀ W : World, (∀ k, (∀ cs, ¬ IsS Z k 32 cs) → k < Z.heap.size → W.heap[k]? = Z.heap[k]?) → STV W s v1 v2 v3 v4 v5
theorem STk.stv {Z : World} {s : ST} {v1 v2 v3 v4 v5 : Value} (h : STk Z s v1 v2 v3 v4 v5) : STV Z s v1 v2 v3 v4 v5 := h Z fun _ _ _ => rfl
theorem STk.below {Z Z' : World} {s : ST} {v1 v2 v3 v4 v5 : Value} (h : STk Z s v1 v2 v3 v4 v5) (hB : Below Z.heap.size Z Z') : STk Z' s v1 v2 v3 v4 v5 := fun W hW => h W fun k hk hl => (hW k (fun cs I => hk cs ((hB.block k hl).symm.trans I)) (Nat.lt_of_lt_of_le hl hB.size)).trans (hB.block k hl)
theorem STk.upd {Z W : World} {s : ST} {b : Nat} {cs : List Value} {v1 v2 v3 v4 v5 : Value} (h : STk Z s v1 v2 v3 v4 v5) (I : IsS Z b 32 cs) (U : Upd Z W b) : STV W s v1 v2 v3 v4 v5 := h W fun k hk _ => U.block k fun e => by subst e; exact hk cs I
theorem STk.upd2 {Z W : World} {s : ST} {b : Nat} {cs cs' : List Value} {v1 v2 v3 v4 v5 : Value} (h : STk Z s v1 v2 v3 v4 v5) (I : IsS Z b 32 cs) (U : Upd Z W b) (I' : IsS W b 32 cs') : STk W s v1 v2 v3 v4 v5 := fun V hV => h V fun k hk hl => by
 have hkb : k ≠ b := fun e => by subst e; exact hk cs I
 exact (hV k (fun cs2 I2 => hk cs2 ((U.block k hkb).symm.trans I2)) (by rw [U.size]; exact hl)).trans (U.block k hkb)
def RstA (w : World) (r : Option ST) (e : Ending) (w' : World) : Prop :=
 (r = none → e = .returned (.tuple #[.agg zst.toArray, .bool false]) ∧ Below w.heap.size w w') ∧
 (∀ s', r = some s' → ∃ v1 v2 v3 v4 v5, e = .returned (.tuple #[.agg #[v1, v2, v3, v4, v5, .int .i64 (-1)], .bool true]) ∧ STk w' s' v1 v2 v3 v4 v5 ∧ Below w.heap.size w w')
theorem rstepK_any (p : PG) (hv : Vld p) (hf : p.Few) (s : ST) (hfit : Fits (shpOf p) s) (hpl : plainB s = true) (k : Int × Int × Int) (vt vr vl vi vj v1 v2 v3 v4 v5 : Value) (w : World) (hp : PGV w vt vr vl vi vj p) (hS : STV w s v1 v2 v3 v4 v5) :
    Calls Try.prog 23 #[.agg #[vt, vr, vl, vi, vj], .agg #[v1, v2, v3, v4, v5, .int .i64 (-1)], .agg (pkL k).toArray] w fun e w' => RstA w (stepK p.threads s k) e w' := by
 have e1 : (shpOf p).ins.length = p.threads.length := (shp_len hv).1
 have lp : s.pc.length = p.threads.length := by rw [hfit.pc, e1]
 have lh : s.ph.length = p.threads.length := by rw [hfit.ph, e1]
 have lg : s.regs.length = p.threads.length := by rw [hfit.rg, e1]
 have lb : s.buf.length = p.threads.length := by rw [hfit.bf, e1]
 obtain ⟨r1, r2, r3⟩ := plain_rep hpl lp lh lb
 obtain ⟨hI, hLe⟩ := inv_fits hv hfit
 obtain ⟨at0, ct, rfl⟩ := hp.t.form
 obtain ⟨ap, cp, rfl, _, _⟩ := id hS.pc
 obtain ⟨ah, ch, rfl, _, _⟩ := id hS.ph
 obtain ⟨ar, cr, rfl⟩ := hS.rg.form
 obtain ⟨am, cm, rfl, _, _⟩ := id hS.mm
 obtain ⟨ab, cb, rfl⟩ := hS.bf.form
 have q1 := hS.pc
 have q2 := hS.ph
 have q3 := hS.rg
 have q5 := hS.bf
 rw [lp] at q1
 rw [lh] at q2
 rw [lg] at q3
 rw [lb] at q5
 rw [r1] at q2
 rw [r2] at q5
 rw [lp, lh, lg, lb]
 have hRS : RS w (.slice ap p.threads.length cp) (.slice ah p.threads.length ch) (.slice ar p.threads.length cr) (.slice am s.mem.length cm) (.slice ab p.threads.length cb) p.threads.length s.pc s.regs s.mem := ⟨q1, q2, q3, hS.mm, q5⟩
 obtain ⟨i, kd, lc⟩ := k
 by_cases hk : kd = 1 ∧ lc = 0
 · obtain ⟨rfl, rfl⟩ := hk
   refine (rstep_any p hv hf s.pc s.regs s.mem hI i _ _ ct cp ch cr cm cb at0 ap ah ar am ab vr vl vi vj w rfl rfl hp.t hRS).mono fun e w' h => ?_
   obtain ⟨v, he, hA, hB⟩ := h
   have hK : stepK p.threads s (i, 1, 0) = (stepS p.threads s.pc s.regs s.mem i).map (fun t => ⟨t.1, s.ph, t.2.1, t.2.2, s.buf, s.lock⟩) := by
    unfold stepK; rw [if_pos ⟨hpl, rfl, rfl⟩]
   rw [hK]
   unfold StepA at hA
   cases hs : stepS p.threads s.pc s.regs s.mem i with
   | none =>
    rw [hs] at hA he
    exact ⟨fun _ => ⟨by rw [he, hA]; rfl, hB⟩, fun s' h' => by cases h'⟩
   | some t =>
    rw [hs] at hA he
    obtain ⟨u1, u2, u3, u4, u5, ev, hR⟩ := hA
    refine ⟨fun h' => (by cases h'), fun s' h' => ⟨u1, u2, u3, u4, u5, by rw [he, ev]; rfl, ?_, hB⟩⟩
    cases h'
    have hI' := inv_step hv hI hs
    exact fun W hW => st_of_rows (hR W hW) (by rw [r1, r2, r3]) hI'.pl
 · have hK : stepK p.threads s (i, kd, lc) = none := by unfold stepK; rw [if_neg (fun h => hk h.2)]
   rw [hK]
   refine (rstep_other p hv hf s.pc s.regs s.mem hI i _ _ ct cp ch cr cm cb at0 ap ah ar am ab vr vl vi vj w rfl rfl hp.t hRS kd lc hk).mono fun e w' h => ?_
   exact ⟨fun _ => h, fun s' h' => by cases h'⟩
theorem own_turn {W W' : World} {B t k n g : Nat} {u : Value} {xs cs cs' : List Value} (h : W.ownsRow B t k u n xs) (I : IsS W g t cs) (U : Upd W W' g) (I' : IsS W' g t cs') (hl : cs'.length = cs.length) : ∃ xs', W'.ownsRow B t k u n xs' := by
 rcases h.2 with ⟨rfl, h0⟩ | ⟨g', cap, cur, rfl, hg, hh, hc, hm, hs, ht⟩
 · exact ⟨xs, h.1, .inl ⟨rfl, h0⟩⟩
 · by_cases e : g' = g
   · subst e
     have ec : cur.toList = cs := by
      unfold IsS at I
      rw [I] at hh
      have := oI hh
      simp at this
      rw [← this]
     have hcl : cs.length = cap * k := by rw [← ec]; simpa using hs
     refine ⟨cs'.take (n * k), ?_, .inr ⟨g', cap, cs'.toArray, rfl, hg, I', hc, hm, by simp [hl, hcl], by simp⟩⟩
     rw [List.length_take, hl, hcl]
     have := Nat.mul_le_mul_right k hc
     omega
   · exact ⟨xs, own_same h fun k' hk' => U.block k' (fun e' => e (by cases hk'; exact e'))⟩
structure CT (W0 W : World) (lo hi : Nat) (v : Value) (vs : List Value) (n : Nat) (ls : List Nat) : Prop where
 out : OutR lo hi W0 W
 th : W.ownsRow lo 61 1 v n vs
 rows : ∀ (j : Nat) u m, vs[j]? = some u → ls[j]? = some m → ∃ xs, W.ownsRow lo 63 5 u m xs
 rng : ∀ u, u = v ∨ u ∈ vs → ∀ k, u.ownBlock = some k → k < hi
 len : ls.length = n
theorem CT.start {Wc W0 : World} {lo : Nat} {v : Value} {ths : List (List Op5)} (h : OwnRows Wc lo 61 63 5 v op5L ths) (hB : Below Wc.heap.size Wc W0) : ∃ vs, CT W0 W0 lo Wc.heap.size v vs ths.length (ths.map List.length) := by
 obtain ⟨vs, h1, h2, h3⟩ := h
 refine ⟨vs, OutR.refl _ _ _, own_below h2 hB, fun j u m hu hm => ?_, fun u hu k hk => ?_, by simp⟩
 · rw [List.getElem?_map] at hm
   cases hx : ths[j]? with
   | none => rw [hx] at hm; cases hm
   | some x =>
    rw [hx] at hm
    cases hm
    exact ⟨_, own_below (h3 j u x hu hx) hB⟩
 · rcases hu with rfl | hu
   · exact (own_lt h2 hk).2
   · obtain ⟨j, hj⟩ := List.mem_iff_getElem?.1 hu
     have hjl : j < ths.length := by rw [← h1]; exact (List.getElem?_eq_some_iff.1 hj).1
     exact (own_lt (h3 j u _ hj (List.getElem?_eq_getElem hjl)) hk).2
section
variable {W0 W : World} {lo hi n : Nat} {v : Value} {vs : List Value} {ls : List Nat}
theorem CT.row (h : CT W0 W lo hi v vs n ls) {j m : Nat} (hm : ls[j]? = some m) : ∃ g c a c', v = .slice (some ⟨g, 0, none⟩) n c ∧ vs[j]? = some (.slice a m c') ∧ W.cell? ⟨g, j, none⟩ = some (.slice a m c') := by
 have hj : j < n := by rw [← h.len]; exact (List.getElem?_eq_some_iff.1 hm).1
 have hvl : vs.length = n := own_len h.th
 obtain ⟨g, c, cs, hv3, hg, I, ht, hc, hmx, hs⟩ := own_opn h.th (by omega)
 have hjv : j < vs.length := by omega
 obtain ⟨xs, o⟩ := h.rows j vs[j] m (List.getElem?_eq_getElem hjv) hm
 obtain ⟨a, c', hv⟩ := own_form o
 refine ⟨g, c, a, c', hv3, by rw [List.getElem?_eq_getElem hjv, hv], ?_⟩
 have h1 : (cs.take n)[j]? = some vs[j] := by rw [ht]; exact List.getElem?_eq_getElem hjv
 rw [List.getElem?_take, if_pos hj] at h1
 exact ((I.cell j).trans h1).trans (by rw [hv])
theorem CT.put (h : CT W0 W lo hi v vs n ls) {j m k c' : Nat} {a : Option Addr} (hm : ls[j]? = some m) (hu : vs[j]? = some (.slice a m c')) (hk : k < m) :
    ∃ g cs, a = some ⟨g, 0, none⟩ ∧ IsS W g 63 cs ∧ k * 5 < cs.length ∧ m ≤ c' ∧ ∀ (x : Value) (W' : World), Upd W W' g → IsS W' g 63 (cs.set (k * 5) x) → CT W0 W' lo hi v vs n ls := by
 obtain ⟨xs, o⟩ := h.rows j _ m hu hm
 rcases o.2 with ⟨e, h0⟩ | ⟨g, cap, cur, e, hg, hh, hc, hmx, hs, ht⟩
 · omega
 · cases e
   have I : IsS W g 63 cur.toList := by unfold IsS; rw [hh]
   refine ⟨g, cur.toList, rfl, I, ?_, hc, fun x W' U I' => ?_⟩
   · have : cur.toList.length = c' * 5 := by simpa using hs
     rw [this]; omega
   · refine ⟨h.out.upd U (.inl ⟨hg, h.rng _ (.inr (List.mem_of_getElem? hu)) g rfl⟩), own_upd h.th I U (by decide), fun j' u' m' hu' hm' => ?_, h.rng, h.len⟩
     obtain ⟨xs', o'⟩ := h.rows j' u' m' hu' hm'
     exact own_turn o' I U I' (by rw [List.length_set])
end
end Go.Proofs.Ytegpnicajlndlaa

/- RA7 -/
import Derived.Test.YtegpnicajlndlaaQbq
namespace Go.Proofs.Ytegpnicajlndlaa
open Go.RowKit M
set_option linter.unusedSimpArgs false
set_option linter.unusedVariables false
theorem own_none {w W : World} {B t m : Nat} {u v : Value} {xs ys : List Value} (h : w.ownsRow B t 1 v 0 []) (hu : w.ownsRow B t 1 u m xs) (hU : W.ownsRow B t 1 u m ys) (F : Fr w W [u]) : W.ownsRow B t 1 v 0 [] := by
 by_cases hd : ∃ k, v.ownBlock = some k ∧ u.ownBlock = some k
 · obtain ⟨k, hk, hk'⟩ := hd
   refine ⟨rfl, ?_⟩
   rcases h.2 with h1 | ⟨g, cap, cur, rfl, hg, hh, hc, hm, hs, ht⟩
   · exact .inl h1
   · cases hk
     rcases hu.2 with ⟨h1, _⟩ | ⟨g2, c2, cur2, hv2, hg2, hh2, hc2, hm2, hs2, _⟩
     · rw [h1] at hk'; cases hk'
     · rw [hv2] at hk'; cases hk'
       rcases hU.2 with ⟨h1, _⟩ | ⟨g3, c3, cur3, hv3, hg3, hh3, hc3, hm3, hs3, _⟩
       · rw [hv2] at h1; cases h1
       · rw [hv2] at hv3; cases hv3
         rw [hh] at hh2; cases hh2
         have e : cap = c2 := by omega
         subst e
         exact .inr ⟨_, _, cur3, rfl, hg, hh3, Nat.zero_le _, hm, hs3, by simp⟩
 · exact F.own h fun k hk x hx => by
    simp only [List.mem_singleton] at hx
    subst hx
    exact fun e => hd ⟨k, hk, e⟩
theorem doM_self (o : Op5) (r m : List Int) (h : o.loc.toNat < m.length) : m.set o.loc.toNat ((doM o r m).getD o.loc.toNat 0) = doM o r m := by
 unfold doM
 (repeat' split) <;> simp [h]
theorem doM_non {o : Op5} (r m : List Int) (h : memB o.kind = false) : doM o r m = m := by
 have h1 : ¬ (o.kind = 3 ∨ o.kind = 4 ∨ o.kind = 5 ∨ o.kind = 7 ∨ o.kind = 8 ∨ o.kind = 9) := of_decide_eq_false h
 simp only [not_or] at h1
 obtain ⟨_, h4, h5, h7, h8, h9⟩ := h1
 simp [doM, h4, h5, h7, h8, h9]
def zOp : List Value := [.int .i64 0, .int .i64 0, .int .i64 0, .int .i64 0, .int .i64 0]
theorem zeroOp (w : World) : (zeroValue 63).run Try.prog w = .ok (.agg zOp.toArray) w := Try.zeroValue63 w
theorem exec_loadOp {w : World} {b o : Nat} {x : Op5} {op : Oper} {a : Act} {p : Operand} (ho : op.op = .load 63 p) (hp : a.eval p = .pointer (some ⟨b, o, none⟩)) (hc : w.rangeAt b o (op5L x)) : (execOp a.eval op).run Try.prog w = .ok (.value (.agg (op5L x).toArray)) w := by
 have hr := run_loadAt_mid (P := Try.prog) w b o 63 (op5L x) _ hc Try.underlying63 rfl infoOpL
 unfold execOp
 simp only [ho, hp, Sem.run_bind, hr, Result.andThen_ok, Sem.run_pure]
theorem stc_one {v0 v1 v2 v3 v4 : Value} {z : Int} (h0 : v0.oneCell' = true) (h1 : v1.oneCell' = true) (h2 : v2.oneCell' = true) (h3 : v3.oneCell' = true) (h4 : v4.oneCell' = true) : ∀ v ∈ [v0, v1, v2, v3, v4, .int .i64 z], v.oneCell' = true := by
 intro v hv
 simp only [List.mem_cons, List.not_mem_nil, or_false] at hv
 rcases hv with rfl | rfl | rfl | rfl | rfl | rfl
 · exact h0
 · exact h1
 · exact h2
 · exact h3
 · exact h4
 · rfl
theorem range_belowI {w W : World} {b o : Nat} {cs : List Value} (h : w.rangeAt b o cs) (hB : Below w.heap.size w W) (hb : b < w.heap.size) : W.rangeAt b o cs := fun i u hu => by rw [hB.cell (p := ⟨b, o + i, none⟩) hb]; exact h i u hu
theorem CpO.updO {w W W' : World} {b b3 t : Nat} {cs : List Value} {vpc vph vrg vmm vbf : Value} {vs bs : List Value} {n nm : Nat} {pc : List Int} {regs : List (List Int)} {mem : List Int} (h : CpO w W b3 vpc vph vrg vmm vbf vs bs n nm pc regs mem) (U : Upd W W' b) (I : IsS W b t cs) (h3 : 3 ≠ t) (h2 : 2 ≠ t) (h26 : 26 ≠ t) (h48 : 48 ≠ t) (hb : b3 ≠ b) : CpO w W' b3 vpc vph vrg vmm vbf vs bs n nm pc regs mem :=
 ⟨own_same h.pc fun k hk => U.block k (own_isS h.pc I h3 hk), own_same h.ph fun k hk => U.block k (own_isS h.ph I h3 hk), h.ap, ⟨h.rg.len, own_same h.rg.out fun k hk => U.block k (own_isS h.rg.out I h26 hk), fun j u xs hu hx => own_same (h.rg.row j u xs hu hx) fun k hk => U.block k (own_isS (h.rg.row j u xs hu hx) I h2 hk), h.rg.apart⟩, own_same h.mm fun k hk => U.block k (own_isS h.mm I h2 hk), h.am, own_same h.bf fun k hk => U.block k (own_isS h.bf I h48 hk), h.be, h.st.upd U hb, h.hb⟩
set_option maxRecDepth 100000 in
set_option maxHeartbeats 1000000 in
theorem rstep_some (p : PG) (hv : Vld p) (hf : p.Few) (pc : List Int) (regs : List (List Int)) (mem : List Int) (hI : Inv p pc regs mem) (i : Int) (n nm ct cp ch cr cm cb : Nat) (at0 ap ah ar am ab : Option Addr) (vr vl vi vj : Value) (w : World) (hn0 : p.threads.length = n) (hnm : mem.length = nm)
    (hT : RowsV w (.slice at0 n ct) op5L p.threads) (hS : RS w (.slice ap n cp) (.slice ah n ch) (.slice ar n cr) (.slice am nm cm) (.slice ab n cb) n pc regs mem) (t : List Int × List (List Int) × List Int) (hst : stepS p.threads pc regs mem i = some t) :
    Calls Try.prog 23 #[.agg #[.slice at0 n ct, vr, vl, vi, vj], .agg #[.slice ap n cp, .slice ah n ch, .slice ar n cr, .slice am nm cm, .slice ab n cb, .int .i64 (-1)], .agg #[.int .i64 i, .int .i64 1, .int .i64 0]] w fun e w' => ∃ vpc vph vrg vmm vbf, e = .returned (.tuple #[.agg #[vpc, vph, vrg, vmm, vbf, .int .i64 (-1)], .bool true]) ∧ RSk w' vpc vph vrg vmm vbf n t.1 t.2.1 t.2.2 ∧ Below w.heap.size w w' := by
 obtain ⟨j0, e0, hj0⟩ := step_mem hv hI hst
 obtain ⟨j, qn, th, oo, rj, rfl, hth, hpcj, hoo, hrj, hoi, rfl⟩ := step_some hv hI hst
 have ej : j0 = j := by omega
 subst ej
 have hf' := hf
 obtain ⟨ni, hni⟩ : ∃ k, p.threads.length = k := ⟨_, rfl⟩
 have HT : Hid (RowsV w (.slice at0 n ct) op5L p.threads) := hT
 have HS : Hid (RS w (.slice ap n cp) (.slice ah n ch) (.slice ar n cr) (.slice am nm cm) (.slice ab n cb) n pc regs mem) := hS
 have hseg := fun W (h : RS W (.slice ap n cp) (.slice ah n ch) (.slice ar n cr) (.slice am nm cm) (.slice ab n cb) n pc regs mem) => (row_seg h.pc)
 have hpk := fun W (hB : Below w.heap.size w W) => rpicks_any p.threads pc n ct cp ch cb at0 ap ah ab vr vl vi vj (.slice ar n cr) (.slice am nm cm) W rfl rfl hn0 (hI.pl.trans hn0) (by rw [← hn0]; exact hf.t) hf.tt (hT.below hB) (row_seg (hS.below hB).pc) (hS.below hB).ph (hS.below hB).bf
 obtain ⟨L, hL⟩ : ∃ l, pksL p.threads pc n = l := ⟨_, rfl⟩
 have HLl : Hid (pksL p.threads pc n = L) := hL
 have hll0 := pks_len p.threads pc n
 rw [hL] at hpk hll0
 obtain ⟨ll, hll⟩ : ∃ l, L.length = l := ⟨_, rfl⟩
 have HLL : Hid (L.length = ll) := hll
 rw [hll] at hpk hll0
 have hnle : n ≤ 1048576 := by rw [← hn0]; exact hf.t
 have hllI : (ll : Int) ≤ 1048576 := by omega
 have HIn : Hid (j0 ∈ L) := by rw [hn0, hL] at hj0; exact hj0
 have h0n : 0 < n := by have := hv.n0; omega
 have hpl : pc.length = n := hI.pl.trans hn0
 have hrl : regs.length = n := hI.rl.trans hn0
 have hcpy := fun W (h : RS W (.slice ap n cp) (.slice ah n ch) (.slice ar n cr) (.slice am nm cm) (.slice ab n cb) n pc regs mem) => rscopy_any pc regs mem ap ah ar am ab n nm cp ch cr cm cb W h0n hnle hpl hrl hnm (by rw [← hnm, hI.ml]; exact hf.l) (by have := inv_48 hv hI; rw [List.length_append] at this; omega) h
 have hthl : th.length ≤ 1048576 := row_few hth hf.tt
 have hrr : p.regs[j0]? = some (p.regs.getD j0 []) := by have h1 := hv.rl; have h2 := (List.getElem?_eq_some_iff.1 hth).1; simp [show j0 < p.regs.length by omega]
 have hrjl : rj.length ≤ 1048576 := by rw [hI.rs j0 _ _ hrr hrj]; have := hv.few j0 _ hrr; omega
 have HO : Hid (th[qn]? = some oo ∧ pc[j0]? = some (qn : Int) ∧ p.threads[j0]? = some th ∧ regs[j0]? = some rj ∧ OpIn oo rj.length mem.length ∧ rj.length ≤ 1048576) := ⟨hoo, hpcj, hth, hrj, hoi, hrjl⟩
 have hjn : j0 < n := by have := (List.getElem?_eq_some_iff.1 hth).1; omega
 have HRL2 : Hid (regs.length = n) := hrl
 clear hT hS hL hll hseg hni hI hst hf hf' hv hoo hpcj hth hrj hoi hj0 e0 hpl hrl hrr hrjl
 have t1 : True := trivial
 have t2 : True := trivial
 have t3 : True := trivial
 have t4 : True := trivial
 have t5 : True := trivial
 have t6 : True := trivial
 go_enter Try.func23, Try.ntmps23
 go_wp2_with (first
  | (clear t1; refine wpList_boxS rfl 28 _ rfl [.slice at0 n ct, vr, vl, vi, vj] rfl ?_; intro V0 b3 F0 P0; have A0 := F_b F0; clear F0)
  | (clear t2; refine wpList_boxS rfl 32 _ rfl [.slice ap n cp, .slice ah n ch, .slice ar n cr, .slice am nm cm, .slice ab n cb, .int .i64 (-1)] rfl ?_; intro V1 b4 F1 S1; have A1 := F1.trans A0 A0.size; have P1 := P0.fresh F1; clear F1 P0)
  | (clear t3; refine wpList_boxS rfl 68 _ rfl [.int .i64 (j0 : Int), .int .i64 1, .int .i64 0] rfl ?_; intro V2 b5 F2 K2; have A2 := F2.trans A1 A1.size; have P2 := P1.fresh F2; have S2 := S1.fresh F2; clear F2 P1 S1)
  | (clear t4; refine wpList_allocS rfl 32 rfl [.slice none 0 0, .slice none 0 0, .slice none 0 0, .slice none 0 0, .slice none 0 0, .int .i64 0] zeroSt ?_; intro V3 b6 F3 R3; have A3 := F3.trans A2 A2.size; have P3 := P2.fresh F3; have S3 := S2.fresh F3; have K3 := K2.fresh F3; have hb6 : w.heap.size ≤ b6 := Nat.le_trans A2.size (Nat.le_of_eq F3.at'.symm); clear F3 P2 S2 K2)
  | (clear t5; refine wpList_loadW rfl 28 _ rfl rfl P3 _ Try.underlying28 rfl infoPg ?_)
  | (clear t6; refine wpList_loadW rfl 32 _ rfl rfl S3 _ Try.underlying32 rfl infoSt ?_)
  | (go_at_call 59; refine (hpk _ A3).mono ?_; rintro e V4 ⟨vL, rfl, OL, B4⟩; have A4 := Below.then A3 B4; have P4 := P3.grown B4; have S4 := S3.grown B4; have K4 := K3.grown B4; have R4 := R3.grown B4; clear hpk P3 S3 K3 R3))
 obtain ⟨aL, cl0, hvL⟩ := own_form OL
 subst hvL
 have SL4 := own_segI3 OL
 have HSL : Hid (Seg V4 aL (L.flatMap pkE)) := SL4
 have HP4 : Hid (IsS V4 b3 28 [.slice at0 n ct, vr, vl, vi, vj]) := P4
 have HS4 : Hid (IsS V4 b4 32 [.slice ap n cp, .slice ah n ch, .slice ar n cr, .slice am nm cm, .slice ab n cb, .int .i64 (-1)]) := S4
 have HK4 : Hid (IsS V4 b5 68 [.int .i64 (j0 : Int), .int .i64 1, .int .i64 0]) := K4
 have HR4 : Hid (IsS V4 b6 32 [.slice none 0 0, .slice none 0 0, .slice none 0 0, .slice none 0 0, .slice none 0 0, .int .i64 0]) := R4
 clear OL SL4 P4 S4 K4 R4
 go_loopw [9] (fun x wr => ∃ k : Nat, k ≤ ll ∧ x = .int .i64 (k : Int) ∧ Hid (Below V4.heap.size V4 wr) ∧ Hid (∀ e, e < k → L[e]? ≠ some j0)) (fun x _ => ll - (intOf x).toNat)
 case atStart => exact ⟨0, Nat.zero_le _, rfl, Below.refl _ _, fun e he => absurd he (Nat.not_lt_zero _)⟩
 case round =>
  obtain ⟨k, hk, rfl, HB, HE⟩ := hrel
  by_cases hlt : k < ll
  · have hki : (k : Int) < ll := by omega
    obtain ⟨jk, hjk⟩ : ∃ j, L[k]? = some j := ⟨_, List.getElem?_eq_getElem (by rw [HLL.out]; exact hlt)⟩
    obtain ⟨bl, ol, rfl, hbl, hrg⟩ := pk_range (HSL.out.below HB.out) hjk
    have K5 := HK4.out.grown HB.out
    by_cases hjj : jk = j0
    · have hne : ((jk : Int) != (j0 : Int)) = false := by simp [hjj]
      clear hjk HE hjj
      go_wp2
      refine grow_allW (by kernel_rfl) (by kernel_rfl) ?_
      refine WG.put rfl (v := .slice (some ⟨bl, ol, none⟩) ll cl0) (fun w => by first | rfl | (go_simp; done) | (simp [go_sem]; done)) ?_; simp only [sP]
      refine WG.put rfl (v := .int .i64 (k : Int)) (fun w => by first | rfl | (go_simp; done) | (simp [go_sem]; done)) ?_; simp only [sP]
      refine WG.put rfl (v := .pointer (some ⟨bl, ol + k * 3, none⟩)) (fun w => by first | rfl | (go_simp; done) | (simp [go_sem, hki]; done)) ?_; simp only [sP]
      refine WG.range rfl 68 _ rfl rfl (pkE jk) hbl hrg _ Try.underlying68 rfl (infoPkE jk) ?_; simp only [sP]
      refine WG.row rfl 68 _ rfl rfl K5 [.int .i64 (j0 : Int), .int .i64 1, .int .i64 0] rfl _ Try.underlying68 rfl infoPk ?_; simp only [sP]
      refine WG.put rfl (v := .bool false) (fun w => exec_neqPk rfl rfl rfl false hne) ?_; simp only [sP]
      refine WG.nil ?_
      intro W5 B5
      have A5 := Below.then (Below.then A4 HB.out) B5
      have B45 := Below.then HB.out B5
      have P5 := HP4.out.grown B45
      have S5 := HS4.out.grown B45
      have K5' := HK4.out.grown B45
      have R5 := HR4.out.grown B45
      clear K5 hrg
      have tc : True := trivial
      have td : True := trivial
      have te : True := trivial
      go_wp2_with (first
       | (clear tc; refine wpList_loadW rfl 32 _ rfl rfl S5 _ Try.underlying32 rfl infoSt ?_)
       | (go_at_call 10; refine (hcpy _ (HS.out.below A5)).mono ?_; rintro e W6 ⟨vpc, vph, vrg, vmm, vbf, rfl, ⟨bc, vs, bs, hbs, CO⟩, B6⟩; have A6 := Below.then A5 B6; have P6 := P5.grown B6; have S6 := S5.grown B6; have K6 := K5'.grown B6; have R6 := R5.grown B6; clear hcpy P5 S5 K5' R5)
       | (clear td; refine wpList_allocS rfl 32 rfl [.slice none 0 0, .slice none 0 0, .slice none 0 0, .slice none 0 0, .slice none 0 0, .int .i64 0] zeroSt ?_; intro W7 b10 F7 I7; have B67 := F_b F7; have A7 := F7.trans A6 A6.size; have P7 := P6.fresh F7; have S7 := S6.fresh F7; have K7 := K6.fresh F7; have R7 := R6.fresh F7; have CO7 := CO.below B67; have hb10 : W6.heap.size ≤ b10 := Nat.le_of_eq F7.at'.symm; have n10 : b3 ≠ b10 ∧ b4 ≠ b10 ∧ b5 ≠ b10 ∧ b6 ≠ b10 := (by have h1 := P6.lt; have h2 := S6.lt; have h3 := K6.lt; have h4 := R6.lt; have h5 := F7.at'; refine ⟨?_, ?_, ?_, ?_⟩ <;> omega); clear F7)
       | (clear te; refine wpList_storeW rfl 32 _ _ rfl rfl [vpc, vph, vrg, vmm, vbf, .int .i64 (-1)] rfl I7 rfl infoSt (stc_one (own_cell CO.pc) (own_cell CO.ph) (own_cell CO.rg.out) (own_cell CO.mm) (own_cell CO.bf)) ?_; intro W8 U8 I8; have A8 := U8.trans A7 (Nat.le_trans A6.size hb10); have P8 := P7.upd U8 n10.1; have S8 := S7.upd U8 n10.2.1; have K8 := K7.upd U8 n10.2.2.1; have R8 := R7.upd U8 n10.2.2.2; have B68 := U8.trans B67 hb10))
      have HO' := HO.out
      obtain ⟨bt, ot, al2, cl2, eat, hbt, yt, hsl2, _⟩ := (HT.out.below A8).at j0 th HO'.2.2.1
      obtain ⟨bl2, ol2, eal, hbl2, hrg⟩ := hsl2.op HO'.1
      obtain ⟨gp0, op0, eap, hgp0, yp⟩ := (row_seg (HS.out.below A8).pc).int HO'.2.1
      subst eat eal eap
      obtain ⟨ln, hln⟩ : ∃ l, th.length = l := ⟨_, rfl⟩
      have hql : (qn : Int) < (ln : Int) := by have := (List.getElem?_eq_some_iff.1 HO'.1).1; omega
      have hjt : (j0 : Int) < (n : Int) := by omega
      rw [hln] at yt
      have KC : Hid (CpO W5 W8 bc vpc vph vrg vmm vbf vs bs n nm pc regs mem) := CO.below B68
      clear CO CO7 hsl2 P7 S7 K7 R7 P6 S6 K6 R6 I7 U8
      refine region_invA 15 (fun a0 listed a' w' => ∃ x31 x32 x33 x34 x35 x36 x37 x38 x39 x40 x41 x42 x43 x44 x11 : Value, a' = (((((((((((((((a0.put (some 31) x31).put (some 32) x32).put (some 33) x33).put (some 34) x34).put (some 35) x35).put (some 36) x36).put (some 37) x37).put (some 38) x38).put (some 39) x39).put (some 40) x40).put (some 41) x41).put (some 42) x42).put (some 43) x43).put (some 44) x44).put (some 11) x11) ∧ Hid (Below W8.heap.size W8 w') ∧ (listed.getD 0 false = true → x31 = (.pointer (some ⟨b3, 0, none⟩))) ∧ (listed.getD 1 false = true → x32 = (.slice (some ⟨bt, ot, none⟩) n ct)) ∧ (listed.getD 2 false = true → x33 = (.pointer (some ⟨b5, 0, none⟩))) ∧ (listed.getD 3 false = true → x34 = (.int .i64 (j0 : Int))) ∧ (listed.getD 4 false = true → x35 = (.pointer (some ⟨bt, ot + j0, none⟩))) ∧ (listed.getD 5 false = true → x36 = (.slice (some ⟨bl2, ol2, none⟩) ln cl2)) ∧ (listed.getD 6 false = true → x37 = (.pointer (some ⟨b4, 0, none⟩))) ∧ (listed.getD 7 false = true → x38 = (.slice (some ⟨gp0, op0, none⟩) n cp)) ∧ (listed.getD 8 false = true → x39 = (.pointer (some ⟨b5, 0, none⟩))) ∧ (listed.getD 9 false = true → x40 = (.int .i64 (j0 : Int))) ∧ (listed.getD 10 false = true → x41 = (.pointer (some ⟨gp0, op0 + j0, none⟩))) ∧ (listed.getD 11 false = true → x42 = (.int .i64 (qn : Int))) ∧ (listed.getD 12 false = true → x43 = (.pointer (some ⟨bl2, ol2 + qn * 5, none⟩))) ∧ (listed.getD 13 false = true → x44 = (.agg (op5L oo).toArray)) ∧ (listed.getD 14 false = true → ∃ b11, x11 = .pointer (some ⟨b11, 0, none⟩) ∧ W8.heap.size ≤ b11 ∧ IsS w' b11 63 zOp)) (by kernel_rfl) (by kernel_rfl) ?i0c ?istepc ?iendc
      case i0c => exact ⟨_, _, _, _, _, _, _, _, _, _, _, _, _, _, _, by (try simp only [sP]) <;> rfl, below_drew bR, fun h => (not_rep h).elim, fun h => (not_rep h).elim, fun h => (not_rep h).elim, fun h => (not_rep h).elim, fun h => (not_rep h).elim, fun h => (not_rep h).elim, fun h => (not_rep h).elim, fun h => (not_rep h).elim, fun h => (not_rep h).elim, fun h => (not_rep h).elim, fun h => (not_rep h).elim, fun h => (not_rep h).elim, fun h => (not_rep h).elim, fun h => (not_rep h).elim, fun h => (not_rep h).elim⟩
      case istepc =>
       rintro i listed a' w' hi hr ⟨x31, x32, x33, x34, x35, x36, x37, x38, x39, x40, x41, x42, x43, x44, x11, rfl, HBw, d0, d1, d2, d3, d4, d5, d6, d7, d8, d9, d10, d11, d12, d13, d14⟩
       obtain ⟨hun, oj, hoj, hwt⟩ := mem_ready.1 hr
       simp only [sP]
       have hcase : i = 0 ∨ i = 1 ∨ i = 2 ∨ i = 3 ∨ i = 4 ∨ i = 5 ∨ i = 6 ∨ i = 7 ∨ i = 8 ∨ i = 9 ∨ i = 10 ∨ i = 11 ∨ i = 12 ∨ i = 13 ∨ i = 14 := by omega
       rcases hcase with rfl | rfl | rfl | rfl | rfl | rfl | rfl | rfl | rfl | rfl | rfl | rfl | rfl | rfl | rfl
       · have hoj2 := hoj
         obtain rfl := oI hoj
         refine wpOp_value hoj2 rfl (v := (.pointer (some ⟨b3, 0, none⟩))) (w' := w') (by first | rfl | (go_simp; done) | (simp [go_sem]; done) | (simp [execOp, go_sem]; done)) ?_
         exact ⟨(.pointer (some ⟨b3, 0, none⟩)), x32, x33, x34, x35, x36, x37, x38, x39, x40, x41, x42, x43, x44, x11, by (try simp only [sP]) <;> rfl, Below.then HBw.out bR, fun _ => rfl, d1 ∘ kq, d2 ∘ kq, d3 ∘ kq, d4 ∘ kq, d5 ∘ kq, d6 ∘ kq, d7 ∘ kq, d8 ∘ kq, d9 ∘ kq, d10 ∘ kq, d11 ∘ kq, d12 ∘ kq, d13 ∘ kq, fun h => (eE (d14 (kp h)) fun b h => ⟨b, h.1, h.2.1, h.2.2.grown bR⟩)⟩
       · have hoj2 := hoj
         obtain rfl := oI hoj
         have e0 := d0 (hwt ⟨0, .data⟩ (by simp) rfl)
         subst e0
         refine wpOp_cell hoj2 rfl 22 _ rfl rfl (v := (.slice (some ⟨bt, ot, none⟩) n ct)) (ldcTt w' ((IsS.cell (P8.grown HBw.out) 0).trans rfl)) ?_
         exact ⟨(.pointer (some ⟨b3, 0, none⟩)), (.slice (some ⟨bt, ot, none⟩) n ct), x33, x34, x35, x36, x37, x38, x39, x40, x41, x42, x43, x44, x11, by (try simp only [sP]) <;> rfl, Below.then HBw.out bR, d0 ∘ kq, fun _ => rfl, d2 ∘ kq, d3 ∘ kq, d4 ∘ kq, d5 ∘ kq, d6 ∘ kq, d7 ∘ kq, d8 ∘ kq, d9 ∘ kq, d10 ∘ kq, d11 ∘ kq, d12 ∘ kq, d13 ∘ kq, fun h => (eE (d14 (kp h)) fun b h => ⟨b, h.1, h.2.1, h.2.2.grown bR⟩)⟩
       · have hoj2 := hoj
         obtain rfl := oI hoj
         refine wpOp_value hoj2 rfl (v := (.pointer (some ⟨b5, 0, none⟩))) (w' := w') (by first | rfl | (go_simp; done) | (simp [go_sem]; done) | (simp [execOp, go_sem]; done)) ?_
         exact ⟨x31, x32, (.pointer (some ⟨b5, 0, none⟩)), x34, x35, x36, x37, x38, x39, x40, x41, x42, x43, x44, x11, by (try simp only [sP]) <;> rfl, Below.then HBw.out bR, d0 ∘ kq, d1 ∘ kq, fun _ => rfl, d3 ∘ kq, d4 ∘ kq, d5 ∘ kq, d6 ∘ kq, d7 ∘ kq, d8 ∘ kq, d9 ∘ kq, d10 ∘ kq, d11 ∘ kq, d12 ∘ kq, d13 ∘ kq, fun h => (eE (d14 (kp h)) fun b h => ⟨b, h.1, h.2.1, h.2.2.grown bR⟩)⟩
       · have hoj2 := hoj
         obtain rfl := oI hoj
         have e2 := d2 (hwt ⟨2, .data⟩ (by simp) rfl)
         subst e2
         refine wpOp_cell hoj2 rfl 3 _ rfl rfl (v := (.int .i64 (j0 : Int))) (ldcI w' ((IsS.cell (K8.grown HBw.out) 0).trans rfl)) ?_
         exact ⟨x31, x32, (.pointer (some ⟨b5, 0, none⟩)), (.int .i64 (j0 : Int)), x35, x36, x37, x38, x39, x40, x41, x42, x43, x44, x11, by (try simp only [sP]) <;> rfl, Below.then HBw.out bR, d0 ∘ kq, d1 ∘ kq, d2 ∘ kq, fun _ => rfl, d4 ∘ kq, d5 ∘ kq, d6 ∘ kq, d7 ∘ kq, d8 ∘ kq, d9 ∘ kq, d10 ∘ kq, d11 ∘ kq, d12 ∘ kq, d13 ∘ kq, fun h => (eE (d14 (kp h)) fun b h => ⟨b, h.1, h.2.1, h.2.2.grown bR⟩)⟩
       · have hoj2 := hoj
         obtain rfl := oI hoj
         have e1 := d1 (hwt ⟨1, .data⟩ (by simp) rfl)
         have e3 := d3 (hwt ⟨3, .data⟩ (by simp) rfl)
         subst e1
         subst e3
         refine wpOp_value hoj2 rfl (v := (.pointer (some ⟨bt, ot + j0, none⟩))) (w' := w') (by first | (simp [execOp, go_sem, hjt]; done) | rfl) ?_
         exact ⟨x31, (.slice (some ⟨bt, ot, none⟩) n ct), x33, (.int .i64 (j0 : Int)), (.pointer (some ⟨bt, ot + j0, none⟩)), x36, x37, x38, x39, x40, x41, x42, x43, x44, x11, by (try simp only [sP]) <;> rfl, Below.then HBw.out bR, d0 ∘ kq, d1 ∘ kq, d2 ∘ kq, d3 ∘ kq, fun _ => rfl, d5 ∘ kq, d6 ∘ kq, d7 ∘ kq, d8 ∘ kq, d9 ∘ kq, d10 ∘ kq, d11 ∘ kq, d12 ∘ kq, d13 ∘ kq, fun h => (eE (d14 (kp h)) fun b h => ⟨b, h.1, h.2.1, h.2.2.grown bR⟩)⟩
       · have hoj2 := hoj
         obtain rfl := oI hoj
         have e4 := d4 (hwt ⟨4, .data⟩ (by simp) rfl)
         subst e4
         refine wpOp_cell hoj2 rfl 61 _ rfl rfl (v := (.slice (some ⟨bl2, ol2, none⟩) ln cl2)) (ldcOps w' (by rw [HBw.out.cell (p := ⟨bt, ot + j0, none⟩) hbt]; exact yt)) ?_
         exact ⟨x31, x32, x33, x34, (.pointer (some ⟨bt, ot + j0, none⟩)), (.slice (some ⟨bl2, ol2, none⟩) ln cl2), x37, x38, x39, x40, x41, x42, x43, x44, x11, by (try simp only [sP]) <;> rfl, Below.then HBw.out bR, d0 ∘ kq, d1 ∘ kq, d2 ∘ kq, d3 ∘ kq, d4 ∘ kq, fun _ => rfl, d6 ∘ kq, d7 ∘ kq, d8 ∘ kq, d9 ∘ kq, d10 ∘ kq, d11 ∘ kq, d12 ∘ kq, d13 ∘ kq, fun h => (eE (d14 (kp h)) fun b h => ⟨b, h.1, h.2.1, h.2.2.grown bR⟩)⟩
       · have hoj2 := hoj
         obtain rfl := oI hoj
         refine wpOp_value hoj2 rfl (v := (.pointer (some ⟨b4, 0, none⟩))) (w' := w') (by first | rfl | (go_simp; done) | (simp [go_sem]; done) | (simp [execOp, go_sem]; done)) ?_
         exact ⟨x31, x32, x33, x34, x35, x36, (.pointer (some ⟨b4, 0, none⟩)), x38, x39, x40, x41, x42, x43, x44, x11, by (try simp only [sP]) <;> rfl, Below.then HBw.out bR, d0 ∘ kq, d1 ∘ kq, d2 ∘ kq, d3 ∘ kq, d4 ∘ kq, d5 ∘ kq, fun _ => rfl, d7 ∘ kq, d8 ∘ kq, d9 ∘ kq, d10 ∘ kq, d11 ∘ kq, d12 ∘ kq, d13 ∘ kq, fun h => (eE (d14 (kp h)) fun b h => ⟨b, h.1, h.2.1, h.2.2.grown bR⟩)⟩
       · have hoj2 := hoj
         obtain rfl := oI hoj
         have e6 := d6 (hwt ⟨6, .data⟩ (by simp) rfl)
         subst e6
         refine wpOp_cell hoj2 rfl 29 _ rfl rfl (v := (.slice (some ⟨gp0, op0, none⟩) n cp)) (ldcIs w' ((IsS.cell (S8.grown HBw.out) 0).trans rfl)) ?_
         exact ⟨x31, x32, x33, x34, x35, x36, (.pointer (some ⟨b4, 0, none⟩)), (.slice (some ⟨gp0, op0, none⟩) n cp), x39, x40, x41, x42, x43, x44, x11, by (try simp only [sP]) <;> rfl, Below.then HBw.out bR, d0 ∘ kq, d1 ∘ kq, d2 ∘ kq, d3 ∘ kq, d4 ∘ kq, d5 ∘ kq, d6 ∘ kq, fun _ => rfl, d8 ∘ kq, d9 ∘ kq, d10 ∘ kq, d11 ∘ kq, d12 ∘ kq, d13 ∘ kq, fun h => (eE (d14 (kp h)) fun b h => ⟨b, h.1, h.2.1, h.2.2.grown bR⟩)⟩
       · have hoj2 := hoj
         obtain rfl := oI hoj
         refine wpOp_value hoj2 rfl (v := (.pointer (some ⟨b5, 0, none⟩))) (w' := w') (by first | rfl | (go_simp; done) | (simp [go_sem]; done) | (simp [execOp, go_sem]; done)) ?_
         exact ⟨x31, x32, x33, x34, x35, x36, x37, x38, (.pointer (some ⟨b5, 0, none⟩)), x40, x41, x42, x43, x44, x11, by (try simp only [sP]) <;> rfl, Below.then HBw.out bR, d0 ∘ kq, d1 ∘ kq, d2 ∘ kq, d3 ∘ kq, d4 ∘ kq, d5 ∘ kq, d6 ∘ kq, d7 ∘ kq, fun _ => rfl, d9 ∘ kq, d10 ∘ kq, d11 ∘ kq, d12 ∘ kq, d13 ∘ kq, fun h => (eE (d14 (kp h)) fun b h => ⟨b, h.1, h.2.1, h.2.2.grown bR⟩)⟩
       · have hoj2 := hoj
         obtain rfl := oI hoj
         have e8 := d8 (hwt ⟨8, .data⟩ (by simp) rfl)
         subst e8
         refine wpOp_cell hoj2 rfl 3 _ rfl rfl (v := (.int .i64 (j0 : Int))) (ldcI w' ((IsS.cell (K8.grown HBw.out) 0).trans rfl)) ?_
         exact ⟨x31, x32, x33, x34, x35, x36, x37, x38, (.pointer (some ⟨b5, 0, none⟩)), (.int .i64 (j0 : Int)), x41, x42, x43, x44, x11, by (try simp only [sP]) <;> rfl, Below.then HBw.out bR, d0 ∘ kq, d1 ∘ kq, d2 ∘ kq, d3 ∘ kq, d4 ∘ kq, d5 ∘ kq, d6 ∘ kq, d7 ∘ kq, d8 ∘ kq, fun _ => rfl, d10 ∘ kq, d11 ∘ kq, d12 ∘ kq, d13 ∘ kq, fun h => (eE (d14 (kp h)) fun b h => ⟨b, h.1, h.2.1, h.2.2.grown bR⟩)⟩
       · have hoj2 := hoj
         obtain rfl := oI hoj
         have e7 := d7 (hwt ⟨7, .data⟩ (by simp) rfl)
         have e9 := d9 (hwt ⟨9, .data⟩ (by simp) rfl)
         subst e7
         subst e9
         refine wpOp_value hoj2 rfl (v := (.pointer (some ⟨gp0, op0 + j0, none⟩))) (w' := w') (by first | (simp [execOp, go_sem, hjt]; done) | rfl) ?_
         exact ⟨x31, x32, x33, x34, x35, x36, x37, (.slice (some ⟨gp0, op0, none⟩) n cp), x39, (.int .i64 (j0 : Int)), (.pointer (some ⟨gp0, op0 + j0, none⟩)), x42, x43, x44, x11, by (try simp only [sP]) <;> rfl, Below.then HBw.out bR, d0 ∘ kq, d1 ∘ kq, d2 ∘ kq, d3 ∘ kq, d4 ∘ kq, d5 ∘ kq, d6 ∘ kq, d7 ∘ kq, d8 ∘ kq, d9 ∘ kq, fun _ => rfl, d11 ∘ kq, d12 ∘ kq, d13 ∘ kq, fun h => (eE (d14 (kp h)) fun b h => ⟨b, h.1, h.2.1, h.2.2.grown bR⟩)⟩
       · have hoj2 := hoj
         obtain rfl := oI hoj
         have e10 := d10 (hwt ⟨10, .data⟩ (by simp) rfl)
         subst e10
         refine wpOp_cell hoj2 rfl 3 _ rfl rfl (v := (.int .i64 (qn : Int))) (ldcI w' (by rw [HBw.out.cell (p := ⟨gp0, op0 + j0, none⟩) hgp0]; exact yp)) ?_
         exact ⟨x31, x32, x33, x34, x35, x36, x37, x38, x39, x40, (.pointer (some ⟨gp0, op0 + j0, none⟩)), (.int .i64 (qn : Int)), x43, x44, x11, by (try simp only [sP]) <;> rfl, Below.then HBw.out bR, d0 ∘ kq, d1 ∘ kq, d2 ∘ kq, d3 ∘ kq, d4 ∘ kq, d5 ∘ kq, d6 ∘ kq, d7 ∘ kq, d8 ∘ kq, d9 ∘ kq, d10 ∘ kq, fun _ => rfl, d12 ∘ kq, d13 ∘ kq, fun h => (eE (d14 (kp h)) fun b h => ⟨b, h.1, h.2.1, h.2.2.grown bR⟩)⟩
       · have hoj2 := hoj
         obtain rfl := oI hoj
         have e5 := d5 (hwt ⟨5, .data⟩ (by simp) rfl)
         have e11 := d11 (hwt ⟨11, .data⟩ (by simp) rfl)
         subst e5
         subst e11
         refine wpOp_value hoj2 rfl (v := (.pointer (some ⟨bl2, ol2 + qn * 5, none⟩))) (w' := w') (by first | (simp [execOp, go_sem, hql]; done) | rfl) ?_
         exact ⟨x31, x32, x33, x34, x35, (.slice (some ⟨bl2, ol2, none⟩) ln cl2), x37, x38, x39, x40, x41, (.int .i64 (qn : Int)), (.pointer (some ⟨bl2, ol2 + qn * 5, none⟩)), x44, x11, by (try simp only [sP]) <;> rfl, Below.then HBw.out bR, d0 ∘ kq, d1 ∘ kq, d2 ∘ kq, d3 ∘ kq, d4 ∘ kq, d5 ∘ kq, d6 ∘ kq, d7 ∘ kq, d8 ∘ kq, d9 ∘ kq, d10 ∘ kq, d11 ∘ kq, fun _ => rfl, d13 ∘ kq, fun h => (eE (d14 (kp h)) fun b h => ⟨b, h.1, h.2.1, h.2.2.grown bR⟩)⟩
       · have hoj2 := hoj
         obtain rfl := oI hoj
         have e12 := d12 (hwt ⟨12, .data⟩ (by simp) rfl)
         subst e12
         refine wpOp_value hoj2 rfl (v := (.agg (op5L oo).toArray)) (w' := w') (exec_loadOp rfl rfl (range_belowI hrg HBw.out hbl2)) ?_
         exact ⟨x31, x32, x33, x34, x35, x36, x37, x38, x39, x40, x41, x42, (.pointer (some ⟨bl2, ol2 + qn * 5, none⟩)), (.agg (op5L oo).toArray), x11, by (try simp only [sP]) <;> rfl, Below.then HBw.out bR, d0 ∘ kq, d1 ∘ kq, d2 ∘ kq, d3 ∘ kq, d4 ∘ kq, d5 ∘ kq, d6 ∘ kq, d7 ∘ kq, d8 ∘ kq, d9 ∘ kq, d10 ∘ kq, d11 ∘ kq, d12 ∘ kq, fun _ => rfl, fun h => (eE (d14 (kp h)) fun b h => ⟨b, h.1, h.2.1, h.2.2.grown bR⟩)⟩
       · have hoj2 := hoj
         obtain rfl := oI hoj
         refine wpOp_value hoj2 rfl (run_allocS 63 zOp zeroOp rfl _ w') ?_
         have B9 := F_b (Fresh.alloc w' (.cells zOp.toArray 63))
         exact ⟨x31, x32, x33, x34, x35, x36, x37, x38, x39, x40, x41, x42, x43, x44, _, by (try simp only [sP]) <;> rfl, Below.then HBw.out B9, d0 ∘ kq, d1 ∘ kq, d2 ∘ kq, d3 ∘ kq, d4 ∘ kq, d5 ∘ kq, d6 ∘ kq, d7 ∘ kq, d8 ∘ kq, d9 ∘ kq, d10 ∘ kq, d11 ∘ kq, d12 ∘ kq, d13 ∘ kq, fun _ => ⟨_, rfl, HBw.out.size, IsS.new w' 63 zOp⟩⟩
      case iendc =>
       rintro a' w' ⟨x31, x32, x33, x34, x35, x36, x37, x38, x39, x40, x41, x42, x43, x44, x11, rfl, HBw, d0, d1, d2, d3, d4, d5, d6, d7, d8, d9, d10, d11, d12, d13, d14⟩
       replace d0 := d0 rfl
       replace d1 := d1 rfl
       replace d2 := d2 rfl
       replace d3 := d3 rfl
       replace d4 := d4 rfl
       replace d5 := d5 rfl
       replace d6 := d6 rfl
       replace d7 := d7 rfl
       replace d8 := d8 rfl
       replace d9 := d9 rfl
       replace d10 := d10 rfl
       replace d11 := d11 rfl
       replace d12 := d12 rfl
       replace d13 := d13 rfl
       replace d14 := d14 rfl
       simp only [sP]
       simp only [List.drop_succ_cons, List.drop_zero]
       obtain ⟨b11, e11, hb11, I11⟩ := d14
       subst e11 d0 d1 d2 d3 d4 d5 d6 d7 d8 d9 d10 d11 d12 d13
       have B89 := HBw.out
       clear HBw
       have tg : True := trivial
       have hmy := fun W => rmemory_any oo.kind W
       have hsz6 := B68.size
       have hc9 := KC.out.below B89
       have I8' := I8.grown B89
       have K9 := K8.grown B89
       have R9 := R8.grown B89
       have n1011 : b10 ≠ b11 ∧ b5 ≠ b11 ∧ b6 ≠ b11 := by have h1 := I8.lt; have h2 := K8.lt; have h3 := R8.lt; refine ⟨?_, ?_, ?_⟩ <;> omega
       have hbc : bc ≠ b11 := by have := KC.out.st.lt; omega
       obtain ⟨uu, huu⟩ : ∃ u, vs[j0]? = some u := ⟨_, List.getElem?_eq_getElem (by rw [KC.out.rg.len]; exact (List.getElem?_eq_some_iff.1 HO'.2.2.2.1).1)⟩
       obtain ⟨gr, c3, rs3, evr, hgr, IG9, htg, hc3, hm3, hs3⟩ := own_opn hc9.rg.out (by rw [HRL2.out]; exact h0n)
       obtain ⟨gp, c1, ps1, evp, hgp, IP9, htp, hc1, hm1, hs1⟩ := own_opn hc9.pc h0n
       rw [HRL2.out] at evr htg hc3
       subst evr evp
       have hgu : rs3[0 + j0]? = some uu := by
        rw [Nat.zero_add]
        have h := huu
        rw [← htg, List.getElem?_take, if_pos hjn] at h
        exact h
       cases hmk : memB oo.kind with
       | false =>
        rw [hmk] at hmy
        go_wp2_with (first
         | (clear tg; refine wpList_storeW rfl 63 _ _ rfl rfl (op5L oo) rfl I11 rfl infoOp (op_one oo) ?_; intro W10 U10 I10; have q0 : W10.cell? ⟨b11, 0, none⟩ = some (.int .i64 oo.kind) := I10.cell 0)
         | (go_at_call 62; refine (hmy _).mono ?_; rintro e wq ⟨rfl, hw'⟩; replace hw' := hw'.symm; subst hw'; clear hmy))
        have K10 := K9.upd U10 n1011.2.1
        have R10 := R9.upd U10 n1011.2.2
        have I10b := I8'.upd U10 n1011.1
        have IP10 := IP9.upd U10 (fun e => own_isS' hc9.pc I11 (by decide) (by rw [← e]; rfl))
        have CO10 := hc9.updO U10 I11 (by decide) (by decide) (by decide) (by decide) hbc
        have IG := IG9.upd U10 (fun e => own_isS' hc9.rg.out I11 (by decide) (by rw [← e]; rfl))
        have Ou := CO10.rg.row j0 uu rj huu HO'.2.2.2.1
        have A10 : Below w.heap.size w W10 := U10.trans (Below.then A8 B89) (Nat.le_trans A8.size hb11)
        obtain ⟨au, cu, euu⟩ := own_form Ou
        subst euu
        have nf : ∀ {b t : Nat} {cs : List Value}, IsS W10 b t cs → 2 ≠ t → ∀ v ∈ [Value.slice au rj.length cu], v.ownBlock ≠ some b := fun I h v hv => by simp only [List.mem_singleton] at hv; subst hv; exact own_isS' Ou I h
        have n10f := nf I10b (by decide)
        have n5f := nf K10 (by decide)
        have n11f := nf I10 (by decide)
        have ngrf := nf IG (by decide)
        have pne : ∀ {b t : Nat} {cs : List Value}, IsS W10 b t cs → 3 ≠ t → b ≠ gp := fun I h e => own_isS' CO10.pc I h (by rw [e]; rfl)
        have kp : j0 < ps1.length := by omega
        have hqb : (qn : Int) ≤ 1048576 := by omega
        have hqp : ps1[j0]? = some (.int .i64 (qn : Int)) := by have := cell_of htp HO'.2.1; rw [Nat.zero_add] at this; exact this
        have Af : ∀ {W : World}, Fr W10 W [Value.slice au rj.length cu] → Below w.heap.size w W := fun F => F.below A10 A10.size fun v hv k hk => by simp only [List.mem_singleton] at hv; subst hv; exact Nat.le_trans A5.size (own_lt Ou hk).1
        have y2 : W10.cell? ⟨b10, 2, none⟩ = some (.slice (some ⟨gr, 0, none⟩) n c3) := I10b.cell 2
        have y5 : W10.cell? ⟨b5, 0, none⟩ = some (.int .i64 (j0 : Int)) := K10.cell 0
        have yr : W10.cell? ⟨gr, 0 + j0, none⟩ = some (.slice au rj.length cu) := (IG.cell _).trans hgu
        have hlo := fun W h => local_own oo rj mem W5.heap.size (.slice au rj.length cu) HO'.2.2.2.2.1 hmk HO'.2.2.2.2.2 W h
        refine grow_tailV 7 (by kernel_rfl) (by kernel_rfl) ?_
        refine WG.row rfl 63 _ rfl rfl I10 (op5L oo) rfl _ Try.underlying63 rfl infoOpL ?_; simp only [sP]
        refine WG.put rfl (v := .pointer (some ⟨b10, 2, none⟩)) (fun w => by first | rfl | (go_simp; done) | (simp [go_sem]; done)) ?_; simp only [sP]
        refine WG.cell rfl 25 _ rfl rfl y2 (fun w h => ldcRr w h) ?_; simp only [sP]
        refine WG.put rfl (v := .pointer (some ⟨b5, 0, none⟩)) (fun w => by first | rfl | (go_simp; done) | (simp [go_sem]; done)) ?_; simp only [sP]
        refine WG.cell rfl 3 _ rfl rfl y5 (fun w h => ldcI w h) ?_; simp only [sP]
        refine WG.put rfl (v := .pointer (some ⟨gr, 0 + j0, none⟩)) (fun w => by first | rfl | (go_simp; done) | (simp [go_sem, hjt]; done)) ?_; simp only [sP]
        refine WG.cell rfl 26 _ rfl rfl yr (fun w h => ldcR w h) ?_; simp only [sP]
        refine WG.nil ?_
        intro Wl Bl
        clear y2 y5 yr q0
        simp only [List.drop_succ_cons, List.drop_zero]
        have tp : True := trivial
        have tq : True := trivial
        have ts : True := trivial
        go_wp2_with (first
         | (go_at_call 64; refine (hlo _ (own_below Ou Bl)).mono ?_; rintro e w11 ⟨rfl, Ou11, Fl⟩; have F11 := (Fr.of_below Bl _).trans Fl; have K11 := isS_fr K10 F11 n5f; have J11 := isS_fr I10b F11 n10f; have R11 := isS_fr R10 F11 (nf R10 (by decide)); have P11 := isS_fr IP10 F11 (nf IP10 (by decide)); have A11 := Af F11; have z0 : w11.cell? ⟨b10, 0, none⟩ = some (.slice (some ⟨gp, 0, none⟩) n c1) := J11.cell 0; have z5 : w11.cell? ⟨b5, 0, none⟩ = some (.int .i64 (j0 : Int)) := K11.cell 0; have zp : w11.cell? ⟨gp, j0, none⟩ = some (.int .i64 (qn : Int)) := (P11.cell _).trans hqp)
         | (clear tp; refine wpList_store1 rfl 3 _ _ rfl rfl (.int .i64 ((qn : Int) + 1)) rfl P11 kp info3' rfl ?_; intro W13 U13 P13; have J13 := J11.upd U13 (pne I10b (by decide)); have R13 := R11.upd U13 (pne R10 (by decide)); clear z0 z5 zp)
         | (clear tq; refine wpList_loadW rfl 32 _ rfl rfl J13 _ Try.underlying32 rfl infoSt ?_)
         | (clear ts; refine wpList_storeW rfl 32 _ _ rfl rfl [.slice (some ⟨gp, 0, none⟩) n c1, vph, .slice (some ⟨gr, 0, none⟩) n c3, vmm, vbf, .int .i64 (-1)] rfl R13 rfl infoSt (stc_one rfl (own_cell CO10.ph) rfl (own_cell CO10.mm) (own_cell CO10.bf)) ?_; intro W14 U14 R14))
        have kk : ∀ {t s m : Nat} {v : Value} {xs : List Value}, W10.ownsRow W5.heap.size t s v m xs → t ≠ 2 → w11.ownsRow W5.heap.size t s v m xs := fun ho h => F11.own ho fun k hk x hx => by simp only [List.mem_singleton] at hx; subst hx; exact own_diff ho Ou h hk
        have Og := OwnA.setRow CO10.rg F11 huu HO'.2.2.2.1 (doR_len oo rj mem) Ou11 (fun x hx => by
         simp only [List.mem_singleton] at hx
         exact Or.inl hx)
        have Om : w11.ownsRow W5.heap.size 2 1 vmm nm (mem.flatMap intE) := by
         rcases Nat.eq_zero_or_pos nm with h0 | h0
         · have hm0 : mem = [] := List.eq_nil_of_length_eq_zero (hnm.trans h0)
           have h1 := CO10.mm
           rw [h0, hm0] at h1
           rw [h0, hm0]
           exact own_none h1 Ou Ou11 F11
         · exact F11.own CO10.mm fun k hk x hx => by simp only [List.mem_singleton] at hx; subst hx; exact fun e => CO10.am h0 j0 _ k huu e hk
        have A14 := U14.trans (U13.trans A11 (Nat.le_trans A5.size hgp)) hb6
        refine ret_ST rfl rfl rfl R14 _ Try.underlying32 rfl infoSt _ rfl ⟨_, _, _, _, _, rfl, ?_, A14⟩
        have hfin := rs_fin hgp P11 htp hc1 hm1 hs1 (kk CO10.ph (by decide)) (fun e => CO10.ap gp e rfl) Og Om hnm (kk CO10.bf (by decide)) hbs CO10.be U13 P13 R13 U14
        have edm := doM_non rj mem hmk
        show RSk _ _ _ _ _ _ _ (pc.set j0 _) (regs.set j0 _) (doM oo rj mem)
        rw [edm]
        exact hfin
       | true =>
        rw [hmk] at hmy
        go_wp2_with (first
         | (clear tg; refine wpList_storeW rfl 63 _ _ rfl rfl (op5L oo) rfl I11 rfl infoOp (op_one oo) ?_; intro W10 U10 I10; have q0 : W10.cell? ⟨b11, 0, none⟩ = some (.int .i64 oo.kind) := I10.cell 0)
         | (go_at_call 62; refine (hmy _).mono ?_; rintro e wq ⟨rfl, hw'⟩; replace hw' := hw'.symm; subst hw'; clear hmy))
        have K10 := K9.upd U10 n1011.2.1
        have R10 := R9.upd U10 n1011.2.2
        have I10b := I8'.upd U10 n1011.1
        have IP10 := IP9.upd U10 (fun e => own_isS' hc9.pc I11 (by decide) (by rw [← e]; rfl))
        have CO10 := hc9.updO U10 I11 (by decide) (by decide) (by decide) (by decide) hbc
        have IG := IG9.upd U10 (fun e => own_isS' hc9.rg.out I11 (by decide) (by rw [← e]; rfl))
        have Ou := CO10.rg.row j0 uu rj huu HO'.2.2.2.1
        have A10 : Below w.heap.size w W10 := U10.trans (Below.then A8 B89) (Nat.le_trans A8.size hb11)
        obtain ⟨au, cu, euu⟩ := own_form Ou
        subst euu
        have nf : ∀ {b t : Nat} {cs : List Value}, IsS W10 b t cs → 2 ≠ t → ∀ v ∈ [Value.slice au rj.length cu], v.ownBlock ≠ some b := fun I h v hv => by simp only [List.mem_singleton] at hv; subst hv; exact own_isS' Ou I h
        have n10f := nf I10b (by decide)
        have n5f := nf K10 (by decide)
        have n11f := nf I10 (by decide)
        have ngrf := nf IG (by decide)
        have pne : ∀ {b t : Nat} {cs : List Value}, IsS W10 b t cs → 3 ≠ t → b ≠ gp := fun I h e => own_isS' CO10.pc I h (by rw [e]; rfl)
        have kp : j0 < ps1.length := by omega
        have hqb : (qn : Int) ≤ 1048576 := by omega
        have hqp : ps1[j0]? = some (.int .i64 (qn : Int)) := by have := cell_of htp HO'.2.1; rw [Nat.zero_add] at this; exact this
        have Af : ∀ {W : World}, Fr W10 W [Value.slice au rj.length cu] → Below w.heap.size w W := fun F => F.below A10 A10.size fun v hv k hk => by simp only [List.mem_singleton] at hv; subst hv; exact Nat.le_trans A5.size (own_lt Ou hk).1
        have hloc := HO'.2.2.2.2.1.loc (by have := of_decide_eq_true hmk; omega)
        obtain ⟨l0, el0, hl0n⟩ := nat_of hloc
        have hl0 : (l0 : Int) < (nm : Int) := by omega
        have hnm0 : 0 < nm := by omega
        obtain ⟨gm, c4, ms4, evm, hgm0, IM, htm, hc4, hm4, hs4⟩ := own_opn CO10.mm hnm0
        subst evm
        have ngmf : ∀ v ∈ [Value.slice au rj.length cu], v.ownBlock ≠ some gm := fun v hv e => by simp only [List.mem_singleton] at hv; subst hv; exact CO10.am hnm0 j0 _ gm huu e rfl
        have hgm : ms4[0 + l0]? = some (.int .i64 (mem.getD l0 0)) := cell_of htm (get_of (by omega))
        obtain ⟨vv, hvv⟩ : ∃ v, v = (doM oo rj mem).getD l0 0 := ⟨_, rfl⟩
        have hat : ∀ W, W.ownsRow W5.heap.size 2 1 (.slice au rj.length cu) rj.length (rj.flatMap intE) → Calls Try.prog 63 #[.agg (op5L oo).toArray, (.slice au rj.length cu), .int .i64 (mem.getD l0 0)] W fun e w' => (∃ b, e = .returned (.tuple #[.int .i64 vv, .bool b])) ∧ w'.ownsRow W5.heap.size 2 1 (.slice au rj.length cu) rj.length ((doR oo rj mem).flatMap intE) ∧ Fr W w' [(.slice au rj.length cu)] := fun W h => by
         have ha := atomic_own oo rj mem W5.heap.size (.slice au rj.length cu) HO'.2.2.2.2.1 hmk HO'.2.2.2.2.2 W h
         rw [show oo.loc.toNat = l0 by omega] at ha
         refine ha.mono ?_
         rintro e w' ⟨⟨v, b, rfl, hv⟩, h2, h3⟩
         have : v = vv := by rw [hvv, ← hv]; simp [show l0 < mem.length by omega]
         subst this
         exact ⟨⟨b, rfl⟩, h2, h3⟩
        have hl3 : (op5L oo)[3]? = some (.int .i64 (l0 : Int)) := by rw [← el0]; rfl
        refine region_invA 18 (fun a0 listed a' w' => ∃ x49 x50 x51 x52 x53 x54 x55 x56 x57 x58 x59 x60 x61 x62 x48 x63 x64 x12 : Value, a' = ((((((((((((((((((a0.put (some 49) x49).put (some 50) x50).put (some 51) x51).put (some 52) x52).put (some 53) x53).put (some 54) x54).put (some 55) x55).put (some 56) x56).put (some 57) x57).put (some 58) x58).put (some 59) x59).put (some 60) x60).put (some 61) x61).put (some 62) x62).put (some 48) x48).put (some 63) x63).put (some 64) x64).put (some 12) x12) ∧ Hid (Fr W10 w' [.slice au rj.length cu]) ∧ (listed.getD 13 false = false → Hid (w'.ownsRow W5.heap.size 2 1 (.slice au rj.length cu) rj.length (rj.flatMap intE))) ∧ (listed.getD 13 false = true → Hid (w'.ownsRow W5.heap.size 2 1 (.slice au rj.length cu) rj.length ((doR oo rj mem).flatMap intE))) ∧ (listed.getD 0 false = true → x49 = (.agg (op5L oo).toArray)) ∧ (listed.getD 1 false = true → x50 = (.pointer (some ⟨b10, 2, none⟩))) ∧ (listed.getD 2 false = true → x51 = (.slice (some ⟨gr, 0, none⟩) n c3)) ∧ (listed.getD 3 false = true → x52 = (.pointer (some ⟨b5, 0, none⟩))) ∧ (listed.getD 4 false = true → x53 = (.int .i64 (j0 : Int))) ∧ (listed.getD 5 false = true → x54 = (.pointer (some ⟨gr, 0 + j0, none⟩))) ∧ (listed.getD 6 false = true → x55 = (.slice au rj.length cu)) ∧ (listed.getD 7 false = true → x56 = (.pointer (some ⟨b10, 3, none⟩))) ∧ (listed.getD 8 false = true → x57 = (.slice (some ⟨gm, 0, none⟩) nm c4)) ∧ (listed.getD 9 false = true → x58 = (.pointer (some ⟨b11, 3, none⟩))) ∧ (listed.getD 10 false = true → x59 = (.int .i64 (l0 : Int))) ∧ (listed.getD 11 false = true → x60 = (.pointer (some ⟨gm, 0 + l0, none⟩))) ∧ (listed.getD 12 false = true → x61 = (.int .i64 (mem.getD l0 0))) ∧ (listed.getD 13 false = true → ∃ bq : Bool, x62 = .tuple #[.int .i64 vv, .bool bq]) ∧ (listed.getD 14 false = true → ∃ bq : Bool, x48 = .tuple #[.int .i64 vv, .bool bq]) ∧ (listed.getD 15 false = true → x63 = (.int .i64 vv)) ∧ (listed.getD 16 false = true → ∃ bq : Bool, x64 = .bool bq) ∧ (listed.getD 17 false = true → x12 = (.int .i64 vv))) (by kernel_rfl) (by kernel_rfl) ?i0f ?istepf ?iendf
        case i0f => exact ⟨_, _, _, _, _, _, _, _, _, _, _, _, _, _, _, _, _, _, by (try simp only [sP]) <;> rfl, Fr.of_below (below_drew bR) _, fun _ => own_below Ou (below_drew bR), fun h => (not_rep h).elim, fun h => (not_rep h).elim, fun h => (not_rep h).elim, fun h => (not_rep h).elim, fun h => (not_rep h).elim, fun h => (not_rep h).elim, fun h => (not_rep h).elim, fun h => (not_rep h).elim, fun h => (not_rep h).elim, fun h => (not_rep h).elim, fun h => (not_rep h).elim, fun h => (not_rep h).elim, fun h => (not_rep h).elim, fun h => (not_rep h).elim, fun h => (not_rep h).elim, fun h => (not_rep h).elim, fun h => (not_rep h).elim, fun h => (not_rep h).elim, fun h => (not_rep h).elim⟩
        case istepf =>
         rintro i listed a' w' hi hr ⟨x49, x50, x51, x52, x53, x54, x55, x56, x57, x58, x59, x60, x61, x62, x48, x63, x64, x12, rfl, HW, HN, HY, d0, d1, d2, d3, d4, d5, d6, d7, d8, d9, d10, d11, d12, d13, d14, d15, d16, d17⟩
         obtain ⟨hun, oj, hoj, hwt⟩ := mem_ready.1 hr
         simp only [sP]
         have hcase : i = 0 ∨ i = 1 ∨ i = 2 ∨ i = 3 ∨ i = 4 ∨ i = 5 ∨ i = 6 ∨ i = 7 ∨ i = 8 ∨ i = 9 ∨ i = 10 ∨ i = 11 ∨ i = 12 ∨ i = 13 ∨ i = 14 ∨ i = 15 ∨ i = 16 ∨ i = 17 := by omega
         rcases hcase with rfl | rfl | rfl | rfl | rfl | rfl | rfl | rfl | rfl | rfl | rfl | rfl | rfl | rfl | rfl | rfl | rfl | rfl
         · have hoj2 := hoj
           obtain rfl := oI hoj
           refine wpOp_value hoj2 rfl (v := (.agg (op5L oo).toArray)) (w' := w') (exec_loadOp (b := b11) (o := 0) rfl rfl (fun i u hu => by rw [Nat.zero_add]; exact (IsS.cell (isS_fr I10 HW.out n11f) i).trans hu)) ?_
           exact ⟨(.agg (op5L oo).toArray), x50, x51, x52, x53, x54, x55, x56, x57, x58, x59, x60, x61, x62, x48, x63, x64, x12, by (try simp only [sP]) <;> rfl, HW, fun h => HN (keepG (by decide) h), fun h => HY (keepG (by decide) h), fun _ => rfl, d1 ∘ kq, d2 ∘ kq, d3 ∘ kq, d4 ∘ kq, d5 ∘ kq, d6 ∘ kq, d7 ∘ kq, d8 ∘ kq, d9 ∘ kq, d10 ∘ kq, d11 ∘ kq, d12 ∘ kq, d13 ∘ kq, d14 ∘ kq, d15 ∘ kq, d16 ∘ kq, d17 ∘ kq⟩
         · have hoj2 := hoj
           obtain rfl := oI hoj
           refine wpOp_value hoj2 rfl (v := (.pointer (some ⟨b10, 2, none⟩))) (w' := w') (by first | rfl | (go_simp; done) | (simp [go_sem]; done) | (simp [execOp, go_sem]; done)) ?_
           exact ⟨x49, (.pointer (some ⟨b10, 2, none⟩)), x51, x52, x53, x54, x55, x56, x57, x58, x59, x60, x61, x62, x48, x63, x64, x12, by (try simp only [sP]) <;> rfl, HW, fun h => HN (keepG (by decide) h), fun h => HY (keepG (by decide) h), d0 ∘ kq, fun _ => rfl, d2 ∘ kq, d3 ∘ kq, d4 ∘ kq, d5 ∘ kq, d6 ∘ kq, d7 ∘ kq, d8 ∘ kq, d9 ∘ kq, d10 ∘ kq, d11 ∘ kq, d12 ∘ kq, d13 ∘ kq, d14 ∘ kq, d15 ∘ kq, d16 ∘ kq, d17 ∘ kq⟩
         · have hoj2 := hoj
           obtain rfl := oI hoj
           have e1 := d1 (hwt ⟨1, .data⟩ (by simp) rfl)
           subst e1
           refine wpOp_cell hoj2 rfl 25 _ rfl rfl (v := (.slice (some ⟨gr, 0, none⟩) n c3)) (ldcRr w' ((IsS.cell (isS_fr I10b HW.out n10f) 2).trans rfl)) ?_
           exact ⟨x49, (.pointer (some ⟨b10, 2, none⟩)), (.slice (some ⟨gr, 0, none⟩) n c3), x52, x53, x54, x55, x56, x57, x58, x59, x60, x61, x62, x48, x63, x64, x12, by (try simp only [sP]) <;> rfl, HW, fun h => HN (keepG (by decide) h), fun h => HY (keepG (by decide) h), d0 ∘ kq, fun _ => rfl, fun _ => rfl, d3 ∘ kq, d4 ∘ kq, d5 ∘ kq, d6 ∘ kq, d7 ∘ kq, d8 ∘ kq, d9 ∘ kq, d10 ∘ kq, d11 ∘ kq, d12 ∘ kq, d13 ∘ kq, d14 ∘ kq, d15 ∘ kq, d16 ∘ kq, d17 ∘ kq⟩
         · have hoj2 := hoj
           obtain rfl := oI hoj
           refine wpOp_value hoj2 rfl (v := (.pointer (some ⟨b5, 0, none⟩))) (w' := w') (by first | rfl | (go_simp; done) | (simp [go_sem]; done) | (simp [execOp, go_sem]; done)) ?_
           exact ⟨x49, x50, x51, (.pointer (some ⟨b5, 0, none⟩)), x53, x54, x55, x56, x57, x58, x59, x60, x61, x62, x48, x63, x64, x12, by (try simp only [sP]) <;> rfl, HW, fun h => HN (keepG (by decide) h), fun h => HY (keepG (by decide) h), d0 ∘ kq, d1 ∘ kq, d2 ∘ kq, fun _ => rfl, d4 ∘ kq, d5 ∘ kq, d6 ∘ kq, d7 ∘ kq, d8 ∘ kq, d9 ∘ kq, d10 ∘ kq, d11 ∘ kq, d12 ∘ kq, d13 ∘ kq, d14 ∘ kq, d15 ∘ kq, d16 ∘ kq, d17 ∘ kq⟩
         · have hoj2 := hoj
           obtain rfl := oI hoj
           have e3 := d3 (hwt ⟨3, .data⟩ (by simp) rfl)
           subst e3
           refine wpOp_cell hoj2 rfl 3 _ rfl rfl (v := (.int .i64 (j0 : Int))) (ldcI w' ((IsS.cell (isS_fr K10 HW.out n5f) 0).trans rfl)) ?_
           exact ⟨x49, x50, x51, (.pointer (some ⟨b5, 0, none⟩)), (.int .i64 (j0 : Int)), x54, x55, x56, x57, x58, x59, x60, x61, x62, x48, x63, x64, x12, by (try simp only [sP]) <;> rfl, HW, fun h => HN (keepG (by decide) h), fun h => HY (keepG (by decide) h), d0 ∘ kq, d1 ∘ kq, d2 ∘ kq, fun _ => rfl, fun _ => rfl, d5 ∘ kq, d6 ∘ kq, d7 ∘ kq, d8 ∘ kq, d9 ∘ kq, d10 ∘ kq, d11 ∘ kq, d12 ∘ kq, d13 ∘ kq, d14 ∘ kq, d15 ∘ kq, d16 ∘ kq, d17 ∘ kq⟩
         · have hoj2 := hoj
           obtain rfl := oI hoj
           have e2 := d2 (hwt ⟨2, .data⟩ (by simp) rfl)
           have e4 := d4 (hwt ⟨4, .data⟩ (by simp) rfl)
           subst e2
           subst e4
           refine wpOp_value hoj2 rfl (v := (.pointer (some ⟨gr, 0 + j0, none⟩))) (w' := w') (by first | (simp [execOp, go_sem, hjt]; done) | rfl) ?_
           exact ⟨x49, x50, (.slice (some ⟨gr, 0, none⟩) n c3), x52, (.int .i64 (j0 : Int)), (.pointer (some ⟨gr, 0 + j0, none⟩)), x55, x56, x57, x58, x59, x60, x61, x62, x48, x63, x64, x12, by (try simp only [sP]) <;> rfl, HW, fun h => HN (keepG (by decide) h), fun h => HY (keepG (by decide) h), d0 ∘ kq, d1 ∘ kq, fun _ => rfl, d3 ∘ kq, fun _ => rfl, fun _ => rfl, d6 ∘ kq, d7 ∘ kq, d8 ∘ kq, d9 ∘ kq, d10 ∘ kq, d11 ∘ kq, d12 ∘ kq, d13 ∘ kq, d14 ∘ kq, d15 ∘ kq, d16 ∘ kq, d17 ∘ kq⟩
         · have hoj2 := hoj
           obtain rfl := oI hoj
           have e5 := d5 (hwt ⟨5, .data⟩ (by simp) rfl)
           subst e5
           refine wpOp_cell hoj2 rfl 26 _ rfl rfl (v := (.slice au rj.length cu)) (ldcR w' ((IsS.cell (isS_fr IG HW.out ngrf) (0 + j0)).trans hgu)) ?_
           exact ⟨x49, x50, x51, x52, x53, (.pointer (some ⟨gr, 0 + j0, none⟩)), (.slice au rj.length cu), x56, x57, x58, x59, x60, x61, x62, x48, x63, x64, x12, by (try simp only [sP]) <;> rfl, HW, fun h => HN (keepG (by decide) h), fun h => HY (keepG (by decide) h), d0 ∘ kq, d1 ∘ kq, d2 ∘ kq, d3 ∘ kq, d4 ∘ kq, fun _ => rfl, fun _ => rfl, d7 ∘ kq, d8 ∘ kq, d9 ∘ kq, d10 ∘ kq, d11 ∘ kq, d12 ∘ kq, d13 ∘ kq, d14 ∘ kq, d15 ∘ kq, d16 ∘ kq, d17 ∘ kq⟩
         · have hoj2 := hoj
           obtain rfl := oI hoj
           refine wpOp_value hoj2 rfl (v := (.pointer (some ⟨b10, 3, none⟩))) (w' := w') (by first | rfl | (go_simp; done) | (simp [go_sem]; done) | (simp [execOp, go_sem]; done)) ?_
           exact ⟨x49, x50, x51, x52, x53, x54, x55, (.pointer (some ⟨b10, 3, none⟩)), x57, x58, x59, x60, x61, x62, x48, x63, x64, x12, by (try simp only [sP]) <;> rfl, HW, fun h => HN (keepG (by decide) h), fun h => HY (keepG (by decide) h), d0 ∘ kq, d1 ∘ kq, d2 ∘ kq, d3 ∘ kq, d4 ∘ kq, d5 ∘ kq, d6 ∘ kq, fun _ => rfl, d8 ∘ kq, d9 ∘ kq, d10 ∘ kq, d11 ∘ kq, d12 ∘ kq, d13 ∘ kq, d14 ∘ kq, d15 ∘ kq, d16 ∘ kq, d17 ∘ kq⟩
         · have hoj2 := hoj
           obtain rfl := oI hoj
           have e7 := d7 (hwt ⟨7, .data⟩ (by simp) rfl)
           subst e7
           refine wpOp_cell hoj2 rfl 26 _ rfl rfl (v := (.slice (some ⟨gm, 0, none⟩) nm c4)) (ldcR w' ((IsS.cell (isS_fr I10b HW.out n10f) 3).trans rfl)) ?_
           exact ⟨x49, x50, x51, x52, x53, x54, x55, (.pointer (some ⟨b10, 3, none⟩)), (.slice (some ⟨gm, 0, none⟩) nm c4), x58, x59, x60, x61, x62, x48, x63, x64, x12, by (try simp only [sP]) <;> rfl, HW, fun h => HN (keepG (by decide) h), fun h => HY (keepG (by decide) h), d0 ∘ kq, d1 ∘ kq, d2 ∘ kq, d3 ∘ kq, d4 ∘ kq, d5 ∘ kq, d6 ∘ kq, fun _ => rfl, fun _ => rfl, d9 ∘ kq, d10 ∘ kq, d11 ∘ kq, d12 ∘ kq, d13 ∘ kq, d14 ∘ kq, d15 ∘ kq, d16 ∘ kq, d17 ∘ kq⟩
         · have hoj2 := hoj
           obtain rfl := oI hoj
           refine wpOp_value hoj2 rfl (v := (.pointer (some ⟨b11, 3, none⟩))) (w' := w') (by first | rfl | (go_simp; done) | (simp [go_sem]; done) | (simp [execOp, go_sem]; done)) ?_
           exact ⟨x49, x50, x51, x52, x53, x54, x55, x56, x57, (.pointer (some ⟨b11, 3, none⟩)), x59, x60, x61, x62, x48, x63, x64, x12, by (try simp only [sP]) <;> rfl, HW, fun h => HN (keepG (by decide) h), fun h => HY (keepG (by decide) h), d0 ∘ kq, d1 ∘ kq, d2 ∘ kq, d3 ∘ kq, d4 ∘ kq, d5 ∘ kq, d6 ∘ kq, d7 ∘ kq, d8 ∘ kq, fun _ => rfl, d10 ∘ kq, d11 ∘ kq, d12 ∘ kq, d13 ∘ kq, d14 ∘ kq, d15 ∘ kq, d16 ∘ kq, d17 ∘ kq⟩
         · have hoj2 := hoj
           obtain rfl := oI hoj
           have e9 := d9 (hwt ⟨9, .data⟩ (by simp) rfl)
           subst e9
           refine wpOp_cell hoj2 rfl 3 _ rfl rfl (v := (.int .i64 (l0 : Int))) (ldcI w' ((IsS.cell (isS_fr I10 HW.out n11f) (3)).trans hl3)) ?_
           exact ⟨x49, x50, x51, x52, x53, x54, x55, x56, x57, (.pointer (some ⟨b11, 3, none⟩)), (.int .i64 (l0 : Int)), x60, x61, x62, x48, x63, x64, x12, by (try simp only [sP]) <;> rfl, HW, fun h => HN (keepG (by decide) h), fun h => HY (keepG (by decide) h), d0 ∘ kq, d1 ∘ kq, d2 ∘ kq, d3 ∘ kq, d4 ∘ kq, d5 ∘ kq, d6 ∘ kq, d7 ∘ kq, d8 ∘ kq, fun _ => rfl, fun _ => rfl, d11 ∘ kq, d12 ∘ kq, d13 ∘ kq, d14 ∘ kq, d15 ∘ kq, d16 ∘ kq, d17 ∘ kq⟩
         · have hoj2 := hoj
           obtain rfl := oI hoj
           have e8 := d8 (hwt ⟨8, .data⟩ (by simp) rfl)
           have e10 := d10 (hwt ⟨10, .data⟩ (by simp) rfl)
           subst e8
           subst e10
           refine wpOp_value hoj2 rfl (v := (.pointer (some ⟨gm, 0 + l0, none⟩))) (w' := w') (by first | (simp [execOp, go_sem, hl0]; done) | rfl) ?_
           exact ⟨x49, x50, x51, x52, x53, x54, x55, x56, (.slice (some ⟨gm, 0, none⟩) nm c4), x58, (.int .i64 (l0 : Int)), (.pointer (some ⟨gm, 0 + l0, none⟩)), x61, x62, x48, x63, x64, x12, by (try simp only [sP]) <;> rfl, HW, fun h => HN (keepG (by decide) h), fun h => HY (keepG (by decide) h), d0 ∘ kq, d1 ∘ kq, d2 ∘ kq, d3 ∘ kq, d4 ∘ kq, d5 ∘ kq, d6 ∘ kq, d7 ∘ kq, fun _ => rfl, d9 ∘ kq, fun _ => rfl, fun _ => rfl, d12 ∘ kq, d13 ∘ kq, d14 ∘ kq, d15 ∘ kq, d16 ∘ kq, d17 ∘ kq⟩
         · have hoj2 := hoj
           obtain rfl := oI hoj
           have e11 := d11 (hwt ⟨11, .data⟩ (by simp) rfl)
           subst e11
           refine wpOp_cell hoj2 rfl 2 _ rfl rfl (v := (.int .i64 (mem.getD l0 0))) (ld2 w' ((IsS.cell (isS_fr IM HW.out ngmf) (0 + l0)).trans hgm)) ?_
           exact ⟨x49, x50, x51, x52, x53, x54, x55, x56, x57, x58, x59, (.pointer (some ⟨gm, 0 + l0, none⟩)), (.int .i64 (mem.getD l0 0)), x62, x48, x63, x64, x12, by (try simp only [sP]) <;> rfl, HW, fun h => HN (keepG (by decide) h), fun h => HY (keepG (by decide) h), d0 ∘ kq, d1 ∘ kq, d2 ∘ kq, d3 ∘ kq, d4 ∘ kq, d5 ∘ kq, d6 ∘ kq, d7 ∘ kq, d8 ∘ kq, d9 ∘ kq, d10 ∘ kq, fun _ => rfl, fun _ => rfl, d13 ∘ kq, d14 ∘ kq, d15 ∘ kq, d16 ∘ kq, d17 ∘ kq⟩
         · have hoj2 := hoj
           obtain rfl := oI hoj
           have e0 := d0 (hwt ⟨0, .data⟩ (by simp) rfl)
           have e6 := d6 (hwt ⟨6, .data⟩ (by simp) rfl)
           have e12 := d12 (hwt ⟨12, .data⟩ (by simp) rfl)
           subst e0
           subst e6
           subst e12
           have hno : listed.getD 13 false = false := getD_both hun
           refine wpOp_call hoj2 rfl (f := 63) (args := #[.agg (op5L oo).toArray, .slice au rj.length cu, .int .i64 (mem.getD l0 0)]) (by first | rfl | (go_simp; done) | (simp [go_sem]; done) | (simp [execOp, go_sem]; done)) ?_
           refine (hat w' (HN hno).out).mono ?_
           rintro e w4 ⟨⟨bq, rfl⟩, O4, F4⟩
           refine ⟨_, rfl, ?_⟩
           exact ⟨(.agg (op5L oo).toArray), x50, x51, x52, x53, x54, (.slice au rj.length cu), x56, x57, x58, x59, x60, (.int .i64 (mem.getD l0 0)), _, x48, x63, x64, x12, by (try simp only [sP]) <;> rfl, HW.out.trans F4, fun h => (by rw [nowT (getD_in' hoj2 hun)] at h; cases h), fun _ => O4, fun _ => rfl, d1 ∘ kq, d2 ∘ kq, d3 ∘ kq, d4 ∘ kq, d5 ∘ kq, fun _ => rfl, d7 ∘ kq, d8 ∘ kq, d9 ∘ kq, d10 ∘ kq, d11 ∘ kq, fun _ => rfl, fun _ => ⟨bq, rfl⟩, d14 ∘ kq, d15 ∘ kq, d16 ∘ kq, d17 ∘ kq⟩
         · have hoj2 := hoj
           obtain rfl := oI hoj
           have e13 := d13 (hwt ⟨13, .data⟩ (by simp) rfl)
           obtain ⟨bq13, rfl⟩ := e13
           refine wpOp_value hoj2 rfl (v := .tuple #[.int .i64 vv, .bool bq13]) (w' := w') (by first | rfl | (go_simp; done) | (simp [go_sem]; done) | (simp [execOp, go_sem]; done)) ?_
           exact ⟨x49, x50, x51, x52, x53, x54, x55, x56, x57, x58, x59, x60, x61, (.tuple #[.int .i64 vv, .bool bq13]), _, x63, x64, x12, by (try simp only [sP]) <;> rfl, HW, fun h => HN (keepG (by decide) h), fun h => HY (keepG (by decide) h), d0 ∘ kq, d1 ∘ kq, d2 ∘ kq, d3 ∘ kq, d4 ∘ kq, d5 ∘ kq, d6 ∘ kq, d7 ∘ kq, d8 ∘ kq, d9 ∘ kq, d10 ∘ kq, d11 ∘ kq, d12 ∘ kq, fun _ => ⟨bq13, rfl⟩, fun _ => ⟨bq13, rfl⟩, d15 ∘ kq, d16 ∘ kq, d17 ∘ kq⟩
         · have hoj2 := hoj
           obtain rfl := oI hoj
           have e14 := d14 (hwt ⟨14, .data⟩ (by simp) rfl)
           obtain ⟨bq14, rfl⟩ := e14
           refine wpOp_value hoj2 rfl (v := .int .i64 vv) (w' := w') (by first | rfl | (go_simp; done) | (simp [go_sem]; done) | (simp [execOp, go_sem]; done)) ?_
           exact ⟨x49, x50, x51, x52, x53, x54, x55, x56, x57, x58, x59, x60, x61, x62, (.tuple #[.int .i64 vv, .bool bq14]), _, x64, x12, by (try simp only [sP]) <;> rfl, HW, fun h => HN (keepG (by decide) h), fun h => HY (keepG (by decide) h), d0 ∘ kq, d1 ∘ kq, d2 ∘ kq, d3 ∘ kq, d4 ∘ kq, d5 ∘ kq, d6 ∘ kq, d7 ∘ kq, d8 ∘ kq, d9 ∘ kq, d10 ∘ kq, d11 ∘ kq, d12 ∘ kq, d13 ∘ kq, fun _ => ⟨bq14, rfl⟩, fun _ => rfl, d16 ∘ kq, d17 ∘ kq⟩
         · have hoj2 := hoj
           obtain rfl := oI hoj
           have e14 := d14 (hwt ⟨14, .data⟩ (by simp) rfl)
           obtain ⟨bq14, rfl⟩ := e14
           refine wpOp_value hoj2 rfl (v := .bool bq14) (w' := w') (by first | rfl | (go_simp; done) | (simp [go_sem]; done) | (simp [execOp, go_sem]; done)) ?_
           exact ⟨x49, x50, x51, x52, x53, x54, x55, x56, x57, x58, x59, x60, x61, x62, (.tuple #[.int .i64 vv, .bool bq14]), x63, _, x12, by (try simp only [sP]) <;> rfl, HW, fun h => HN (keepG (by decide) h), fun h => HY (keepG (by decide) h), d0 ∘ kq, d1 ∘ kq, d2 ∘ kq, d3 ∘ kq, d4 ∘ kq, d5 ∘ kq, d6 ∘ kq, d7 ∘ kq, d8 ∘ kq, d9 ∘ kq, d10 ∘ kq, d11 ∘ kq, d12 ∘ kq, d13 ∘ kq, fun _ => ⟨bq14, rfl⟩, d15 ∘ kq, fun _ => ⟨bq14, rfl⟩, d17 ∘ kq⟩
         · have hoj2 := hoj
           obtain rfl := oI hoj
           have e15 := d15 (hwt ⟨15, .data⟩ (by simp) rfl)
           subst e15
           refine wpOp_value hoj2 rfl (v := .int .i64 vv) (w' := w') (by first | rfl | (go_simp; done) | (simp [go_sem]; done) | (simp [execOp, go_sem]; done)) ?_
           exact ⟨x49, x50, x51, x52, x53, x54, x55, x56, x57, x58, x59, x60, x61, x62, x48, (.int .i64 vv), x64, _, by (try simp only [sP]) <;> rfl, HW, fun h => HN (keepG (by decide) h), fun h => HY (keepG (by decide) h), d0 ∘ kq, d1 ∘ kq, d2 ∘ kq, d3 ∘ kq, d4 ∘ kq, d5 ∘ kq, d6 ∘ kq, d7 ∘ kq, d8 ∘ kq, d9 ∘ kq, d10 ∘ kq, d11 ∘ kq, d12 ∘ kq, d13 ∘ kq, d14 ∘ kq, fun _ => rfl, d16 ∘ kq, fun _ => rfl⟩
        case iendf =>
         rintro W11 w11 ⟨x49, x50, x51, x52, x53, x54, x55, x56, x57, x58, x59, x60, x61, x62, x48, x63, x64, x12, rfl, HW, HN, HY, d0, d1, d2, d3, d4, d5, d6, d7, d8, d9, d10, d11, d12, d13, d14, d15, d16, d17⟩
         replace d0 := d0 rfl
         replace d1 := d1 rfl
         replace d2 := d2 rfl
         replace d3 := d3 rfl
         replace d4 := d4 rfl
         replace d5 := d5 rfl
         replace d6 := d6 rfl
         replace d7 := d7 rfl
         replace d8 := d8 rfl
         replace d9 := d9 rfl
         replace d10 := d10 rfl
         replace d11 := d11 rfl
         replace d12 := d12 rfl
         replace d13 := d13 rfl
         replace d14 := d14 rfl
         replace d15 := d15 rfl
         replace d16 := d16 rfl
         replace d17 := d17 rfl
         obtain ⟨bq1, h62⟩ := d13
         obtain ⟨bq2, h48⟩ := d14
         obtain ⟨bq3, h64⟩ := d16
         have Ou11 := (HY rfl).out
         have F11 := HW.out
         clear HN HY HW
         subst h62 h48 h64 d0 d1 d2 d3 d4 d5 d6 d7 d8 d9 d10 d11 d12 d15 d17
         simp only [sP]
         simp only [List.drop_succ_cons, List.drop_zero]
         have K11 := isS_fr K10 F11 n5f
         have J11 := isS_fr I10b F11 n10f
         have R11 := isS_fr R10 F11 (nf R10 (by decide))
         have P11 := isS_fr IP10 F11 (nf IP10 (by decide))
         have A11 := Af F11
         have tp : True := trivial
         have tq : True := trivial
         have ts : True := trivial
         have M11 := isS_fr IM F11 ngmf
         have z3 : w11.cell? ⟨b10, 3, none⟩ = some (.slice (some ⟨gm, 0, none⟩) nm c4) := J11.cell 3
         have z4 : w11.cell? ⟨b11, 3, none⟩ = some (.int .i64 (l0 : Int)) := ((isS_fr I10 F11 n11f).cell 3).trans hl3
         have km : l0 < ms4.length := by omega
         have mne : ∀ {b t : Nat} {cs : List Value}, IsS W10 b t cs → 2 ≠ t → b ≠ gm := fun I h e => own_isS' CO10.mm I h (by rw [e]; rfl)
         have tm : True := trivial
         go_wp2_with (first
          | (clear tm; refine wpList_store1 rfl 2 _ _ rfl rfl (.int .i64 vv) rfl M11 km infoI2 rfl ?_; intro W12 U12 M12; have J12 := J11.upd U12 (mne I10b (by decide)); have K12 := K11.upd U12 (mne K10 (by decide)); have P12 := P11.upd U12 (mne IP10 (by decide)); have R12 := R11.upd U12 (mne R10 (by decide)); have z0 : W12.cell? ⟨b10, 0, none⟩ = some (.slice (some ⟨gp, 0, none⟩) n c1) := J12.cell 0; have z5 : W12.cell? ⟨b5, 0, none⟩ = some (.int .i64 (j0 : Int)) := K12.cell 0; have zp : W12.cell? ⟨gp, j0, none⟩ = some (.int .i64 (qn : Int)) := (P12.cell _).trans hqp; clear z3 z4 q0)
          | (clear tp; refine wpList_store1 rfl 3 _ _ rfl rfl (.int .i64 ((qn : Int) + 1)) rfl P12 kp info3' rfl ?_; intro W13 U13 P13; have J13 := J12.upd U13 (pne I10b (by decide)); have R13 := R12.upd U13 (pne R10 (by decide)); clear z0 z5 zp)
          | (clear tq; refine wpList_loadW rfl 32 _ rfl rfl J13 _ Try.underlying32 rfl infoSt ?_)
          | (clear ts; refine wpList_storeW rfl 32 _ _ rfl rfl [.slice (some ⟨gp, 0, none⟩) n c1, vph, .slice (some ⟨gr, 0, none⟩) n c3, .slice (some ⟨gm, 0, none⟩) nm c4, vbf, .int .i64 (-1)] rfl R13 rfl infoSt (stc_one rfl (own_cell CO10.ph) rfl (own_cell CO10.mm) (own_cell CO10.bf)) ?_; intro W14 U14 R14))
         have kk : ∀ {t s m : Nat} {v : Value} {xs : List Value}, W10.ownsRow W5.heap.size t s v m xs → t ≠ 2 → W12.ownsRow W5.heap.size t s v m xs := fun ho h => by
          have h1 := F11.own ho fun k hk x hx => by simp only [List.mem_singleton] at hx; subst hx; exact own_diff ho Ou h hk
          exact own_same h1 fun k hk => U12.block k (own_isS h1 M11 h hk)
         have F12 : Fr W10 W12 [Value.slice au rj.length cu, .slice (some ⟨gm, 0, none⟩) nm c4] := (F11.more (by simp +contextual)).trans (fr_one (n := nm) (c := c4) (o := 0) (One.of_upd U12) _ (by simp))
         have Og := OwnA.setRow CO10.rg F12 huu HO'.2.2.2.1 (doR_len oo rj mem) (own_same Ou11 fun k hk => U12.block k (fun e => CO10.am hnm0 j0 _ k huu hk (by rw [e]; rfl))) (fun x hx => by
          simp only [List.mem_cons, List.not_mem_nil, or_false] at hx
          rcases hx with hx | hx
          · exact Or.inl hx
          · subst hx
            exact Or.inr ⟨fun k hk => own_diff CO10.rg.out CO10.mm (by decide) hk, fun i y k hy hk => CO10.am hnm0 i y k hy hk⟩)
         have Om := put_own hgm0 (show IsS W12 gm 2 (ms4.set (0 + l0) (.int .i64 vv)) by rw [Nat.zero_add]; exact M12) htm hc4 hm4 hs4
         have hlt : oo.loc.toNat = l0 := by omega
         have hdm : mem.set l0 vv = doM oo rj mem := by rw [hvv, ← hlt]; exact doM_self oo rj mem (by omega)
         rw [hdm] at Om
         have A12 := U12.trans A11 (Nat.le_trans A5.size hgm0)
         have A14 := U14.trans (U13.trans A12 (Nat.le_trans A5.size hgp)) hb6
         exact ret_ST rfl rfl rfl R14 _ Try.underlying32 rfl infoSt _ rfl ⟨_, _, _, _, _, rfl, rs_fin hgp P12 htp hc1 hm1 hs1 (kk CO10.ph (by decide)) (fun e => CO10.ap gp e rfl) Og Om ((doM_len oo rj mem).trans hnm) (kk CO10.bf (by decide)) hbs CO10.be U13 P13 R13 U14, A14⟩
    · have hne : ((jk : Int) != (j0 : Int)) = true := by simp; omega
      have HE' : Hid (∀ e, e < k + 1 → L[e]? ≠ some j0) := fun e he h => by
       rcases Nat.lt_succ_iff_lt_or_eq.1 he with h1 | h1
       · exact HE.out e h1 h
       · subst h1; rw [hjk] at h; cases h; exact hjj rfl
      clear hjk HE hjj
      go_wp2
      refine grow_allW (by kernel_rfl) (by kernel_rfl) ?_
      refine WG.put rfl (v := .slice (some ⟨bl, ol, none⟩) ll cl0) (fun w => by first | rfl | (go_simp; done) | (simp [go_sem]; done)) ?_; simp only [sP]
      refine WG.put rfl (v := .int .i64 (k : Int)) (fun w => by first | rfl | (go_simp; done) | (simp [go_sem]; done)) ?_; simp only [sP]
      refine WG.put rfl (v := .pointer (some ⟨bl, ol + k * 3, none⟩)) (fun w => by first | rfl | (go_simp; done) | (simp [go_sem, hki]; done)) ?_; simp only [sP]
      refine WG.range rfl 68 _ rfl rfl (pkE jk) hbl hrg _ Try.underlying68 rfl (infoPkE jk) ?_; simp only [sP]
      refine WG.row rfl 68 _ rfl rfl K5 [.int .i64 (j0 : Int), .int .i64 1, .int .i64 0] rfl _ Try.underlying68 rfl infoPk ?_; simp only [sP]
      refine WG.put rfl (v := .bool true) (fun w => exec_neqPk rfl rfl rfl true hne) ?_; simp only [sP]
      refine WG.nil ?_
      intro W5 B5
      clear K5 hrg
      go_wp2
      go_roundw
      case rel => exact ⟨k + 1, by omega, by go_num, Below.then HB.out B5, HE'⟩
      case measure => simp [intOf]; omega
  · exfalso
    obtain ⟨e, he⟩ := List.getElem?_of_mem HIn.out
    have := (List.getElem?_eq_some_iff.1 he).1
    have := HLL.out
    exact HE.out e (by omega) he
end Go.Proofs.Ytegpnicajlndlaa

/- RA6, RAL -/
import Derived.Test.YtegpnicajlndlaaQbp
namespace Go.Proofs.Ytegpnicajlndlaa
open Go.RowKit M
set_option linter.unusedSimpArgs false
set_option linter.unusedVariables false
theorem row_seg {w : World} {a : Option Addr} {n m c : Nat} {xs : List Value} (h : RowV w (.slice a n c) m xs) : Seg w a xs := by
 obtain ⟨a', c', e, hs, _⟩ := h
 injection e with e1 e2 e3
 rw [e1]; exact hs
theorem own_segI3 {w : World} {B t s n m c : Nat} {a : Option Addr} {xs : List Value} (h : w.ownsRow B t s (.slice a n c) m xs) : Seg w a xs := row_seg (own_row h)
theorem build0St {w : World} {op : Oper} {a : Act} (ho : op.op = .build 32 #[]) : (execOp a.eval op).run Try.prog w = .ok (.value (.agg [.slice none 0 0, .slice none 0 0, .slice none 0 0, .slice none 0 0, .slice none 0 0, .int .i64 0].toArray)) w := by
 unfold execOp
 simp [ho, go_sem]
theorem wpList_b0St {w : World} {ops : Array Oper} {rest : List Oper} {op : Oper} {a : Act} {Q : Exit → Act → World → Prop} (hgd : op.guard = none) (ho : op.op = .build 32 #[]) (h : wpList Try.prog ops Q rest (a.put op.dst (.agg [.slice none 0 0, .slice none 0 0, .slice none 0 0, .slice none 0 0, .slice none 0 0, .int .i64 0].toArray)) w) : wpList Try.prog ops Q (op :: rest) a w := by
 refine wpList_plain hgd fun K hK => ?_
 unfold Oper.wp
 rw [build0St ho]
 exact hK _ _ h
set_option maxRecDepth 100000 in
set_option maxHeartbeats 4000000 in
theorem rstep_none (p : PG) (hv : Vld p) (hf : p.Few) (pc : List Int) (regs : List (List Int)) (mem : List Int) (hI : Inv p pc regs mem) (i : Int) (n nm ct cp ch cr cm cb : Nat) (at0 ap ah ar am ab : Option Addr) (vr vl vi vj : Value) (w : World) (hn0 : p.threads.length = n) (hnm : mem.length = nm)
    (hT : RowsV w (.slice at0 n ct) op5L p.threads) (hS : RS w (.slice ap n cp) (.slice ah n ch) (.slice ar n cr) (.slice am nm cm) (.slice ab n cb) n pc regs mem) (hst : stepS p.threads pc regs mem i = none) :
    Calls Try.prog 23 #[.agg #[.slice at0 n ct, vr, vl, vi, vj], .agg #[.slice ap n cp, .slice ah n ch, .slice ar n cr, .slice am nm cm, .slice ab n cb, .int .i64 (-1)], .agg #[.int .i64 i, .int .i64 1, .int .i64 0]] w fun e w' => e = .returned (.tuple #[.agg [.slice none 0 0, .slice none 0 0, .slice none 0 0, .slice none 0 0, .slice none 0 0, .int .i64 0].toArray, .bool false]) ∧ Below w.heap.size w w' := by
 have hf' := hf
 obtain ⟨ni, hni⟩ : ∃ k, p.threads.length = k := ⟨_, rfl⟩
 have HT : Hid (RowsV w (.slice at0 n ct) op5L p.threads) := hT
 have HS : Hid (RS w (.slice ap n cp) (.slice ah n ch) (.slice ar n cr) (.slice am nm cm) (.slice ab n cb) n pc regs mem) := hS
 have hseg := fun W (h : RS W (.slice ap n cp) (.slice ah n ch) (.slice ar n cr) (.slice am nm cm) (.slice ab n cb) n pc regs mem) => (row_seg h.pc)
 have hpk := fun W (hB : Below w.heap.size w W) => rpicks_any p.threads pc n ct cp ch cb at0 ap ah ab vr vl vi vj (.slice ar n cr) (.slice am nm cm) W rfl rfl hn0 (hI.pl.trans hn0) (by rw [← hn0]; exact hf.t) hf.tt (hT.below hB) (row_seg (hS.below hB).pc) (hS.below hB).ph (hS.below hB).bf
 obtain ⟨L, hL⟩ : ∃ l, pksL p.threads pc n = l := ⟨_, rfl⟩
 have HLl : Hid (pksL p.threads pc n = L) := hL
 have hll0 := pks_len p.threads pc n
 rw [hL] at hpk hll0
 obtain ⟨ll, hll⟩ : ∃ l, L.length = l := ⟨_, rfl⟩
 have HLL : Hid (L.length = ll) := hll
 rw [hll] at hpk hll0
 have hnle : n ≤ 1048576 := by rw [← hn0]; exact hf.t
 have hllI : (ll : Int) ≤ 1048576 := by omega
 have HNo : Hid (∀ j ∈ L, (j : Int) ≠ i) := by have := step_not hI hst; rw [hn0, hL] at this; exact this
 clear hT hS hL hll hseg hni hI hst hf hf' hv
 have t1 : True := trivial
 have t2 : True := trivial
 have t3 : True := trivial
 have t4 : True := trivial
 have t5 : True := trivial
 have t6 : True := trivial
 go_enter Try.func23, Try.ntmps23
 go_wp2_with (first
  | (clear t1; refine wpList_boxS rfl 28 _ rfl [.slice at0 n ct, vr, vl, vi, vj] rfl ?_; intro V0 b3 F0 P0; have A0 := F_b F0; clear F0)
  | (clear t2; refine wpList_boxS rfl 32 _ rfl [.slice ap n cp, .slice ah n ch, .slice ar n cr, .slice am nm cm, .slice ab n cb, .int .i64 (-1)] rfl ?_; intro V1 b4 F1 S1; have A1 := F1.trans A0 A0.size; have P1 := P0.fresh F1; clear F1 P0)
  | (clear t3; refine wpList_boxS rfl 68 _ rfl [.int .i64 i, .int .i64 1, .int .i64 0] rfl ?_; intro V2 b5 F2 K2; have A2 := F2.trans A1 A1.size; have P2 := P1.fresh F2; have S2 := S1.fresh F2; clear F2 P1 S1)
  | (clear t4; refine wpList_allocS rfl 32 rfl [.slice none 0 0, .slice none 0 0, .slice none 0 0, .slice none 0 0, .slice none 0 0, .int .i64 0] zeroSt ?_; intro V3 b6 F3 R3; have A3 := F3.trans A2 A2.size; have P3 := P2.fresh F3; have S3 := S2.fresh F3; have K3 := K2.fresh F3; have hb6 : w.heap.size ≤ b6 := Nat.le_trans A2.size (Nat.le_of_eq F3.at'.symm); clear F3 P2 S2 K2)
  | (clear t5; refine wpList_loadW rfl 28 _ rfl rfl P3 _ Try.underlying28 rfl infoPg ?_)
  | (clear t6; refine wpList_loadW rfl 32 _ rfl rfl S3 _ Try.underlying32 rfl infoSt ?_)
  | (go_at_call 59; refine (hpk _ A3).mono ?_; rintro e V4 ⟨vL, rfl, OL, B4⟩; have A4 := Below.then A3 B4; have P4 := P3.grown B4; have S4 := S3.grown B4; have K4 := K3.grown B4; have R4 := R3.grown B4; clear hpk P3 S3 K3 R3))
 obtain ⟨aL, cl0, hvL⟩ := own_form OL
 subst hvL
 have SL4 := own_segI3 OL
 have HSL : Hid (Seg V4 aL (L.flatMap pkE)) := SL4
 have HP4 : Hid (IsS V4 b3 28 [.slice at0 n ct, vr, vl, vi, vj]) := P4
 have HS4 : Hid (IsS V4 b4 32 [.slice ap n cp, .slice ah n ch, .slice ar n cr, .slice am nm cm, .slice ab n cb, .int .i64 (-1)]) := S4
 have HK4 : Hid (IsS V4 b5 68 [.int .i64 i, .int .i64 1, .int .i64 0]) := K4
 have HR4 : Hid (IsS V4 b6 32 [.slice none 0 0, .slice none 0 0, .slice none 0 0, .slice none 0 0, .slice none 0 0, .int .i64 0]) := R4
 clear OL SL4 P4 S4 K4 R4
 go_loopw [9] (fun x wr => ∃ k : Nat, k ≤ ll ∧ x = .int .i64 (k : Int) ∧ Hid (Below V4.heap.size V4 wr)) (fun x _ => ll - (intOf x).toNat)
 case atStart => exact ⟨0, Nat.zero_le _, rfl, Below.refl _ _⟩
 case round =>
  obtain ⟨k, hk, rfl, HB⟩ := hrel
  by_cases hlt : k < ll
  · have hki : (k : Int) < ll := by omega
    obtain ⟨jk, hjk⟩ : ∃ j, L[k]? = some j := ⟨_, List.getElem?_eq_getElem (by rw [HLL.out]; exact hlt)⟩
    obtain ⟨bl, ol, rfl, hbl, hrg⟩ := pk_range (HSL.out.below HB.out) hjk
    have hne : ((jk : Int) != i) = true := by have := HNo.out jk (List.mem_of_getElem? hjk); simpa using this
    have K5 := HK4.out.grown HB.out
    clear hjk
    go_wp2
    refine grow_allW (by kernel_rfl) (by kernel_rfl) ?_
    refine WG.put rfl (v := .slice (some ⟨bl, ol, none⟩) ll cl0) (fun w => by first | rfl | (go_simp; done) | (simp [go_sem]; done)) ?_; simp only [sP]
    refine WG.put rfl (v := .int .i64 (k : Int)) (fun w => by first | rfl | (go_simp; done) | (simp [go_sem]; done)) ?_; simp only [sP]
    refine WG.put rfl (v := .pointer (some ⟨bl, ol + k * 3, none⟩)) (fun w => by first | rfl | (go_simp; done) | (simp [go_sem, hki]; done)) ?_; simp only [sP]
    refine WG.range rfl 68 _ rfl rfl (pkE jk) hbl hrg _ Try.underlying68 rfl (infoPkE jk) ?_; simp only [sP]
    refine WG.row rfl 68 _ rfl rfl K5 [.int .i64 i, .int .i64 1, .int .i64 0] rfl _ Try.underlying68 rfl infoPk ?_; simp only [sP]
    refine WG.put rfl (v := .bool true) (fun w => exec_neqPk rfl rfl rfl true hne) ?_; simp only [sP]
    refine WG.nil ?_
    intro W5 B5
    clear K5 hrg
    go_wp2
    go_roundw
    case rel => exact ⟨k + 1, by omega, by go_num, Below.then HB.out B5⟩
    case measure => simp [intOf]; omega
  · have ek : k = ll := by omega
    subst ek
    have hki : ¬ ((k : Int) < k) := by omega
    have R5 := HR4.out.grown HB.out
    have B05 := Below.then A4 HB.out
    have ta : True := trivial
    go_wp2_with (first
     | (clear ta; refine wpList_b0St rfl rfl ?_)
     | (refine wpList_storeW rfl 32 _ _ rfl rfl [.slice none 0 0, .slice none 0 0, .slice none 0 0, .slice none 0 0, .slice none 0 0, .int .i64 0] rfl R5 rfl infoSt (by simp [Value.oneCell']) ?_; intro W8 U8 D8; have B08 := U8.trans B05 hb6; clear R5 U8))
    exact ret_ST rfl rfl rfl D8 _ Try.underlying32 rfl infoSt _ rfl ⟨rfl, B08⟩
theorem OwnA.setRow {w W : World} {B j : Nat} {v u : Value} {vs us : List Value} {regs : List (List Int)} {rj r' : List Int} (h : OwnA w B v vs regs) (F : Fr w W us) (hu : vs[j]? = some u) (hr : regs[j]? = some rj) (hl : r'.length = rj.length) (hO : W.ownsRow B 2 1 u rj.length (r'.flatMap intE))
    (hus : ∀ x ∈ us, x = u ∨ ((∀ k, v.ownBlock = some k → x.ownBlock ≠ some k) ∧ ∀ (i : Nat) y k, vs[i]? = some y → y.ownBlock = some k → x.ownBlock ≠ some k)) : OwnA W B v vs (regs.set j r') := by
 have hout := F.own h.out fun k hk x hx => by
  rcases hus x hx with rfl | h1
  · exact own_diff h.out (h.row j x rj hu hr) (by decide) hk
  · exact h1.1 k hk
 refine ⟨(by rw [List.length_set]; exact h.len), (by rw [List.length_set]; exact hout), fun i y xs hy hx => ?_, h.apart⟩
 · rw [List.getElem?_set] at hx
   split at hx
   · rename_i e
     subst e
     split at hx
     · cases hx
       rw [hu] at hy
       cases hy
       rw [hl]; exact hO
     · cases hx
   · rename_i e
     refine F.own (h.row i y xs hy hx) fun k hk x hx' => ?_
     rcases hus x hx' with rfl | h1
     · exact h.apart i j y x k (fun e' => e e'.symm) hy hu hk
     · exact h1.2 i y k hy hk
def RSk (Z : World) (vpc vph vrg vmm vbf : Value) (n : Nat) (pc : List Int) (regs : List (List Int)) (mem : List Int) : Prop := ∀ W : World, (∀ k, (∀ cs, ¬ IsS Z k 32 cs) → k < Z.heap.size → W.heap[k]? = Z.heap[k]?) → RS W vpc vph vrg vmm vbf n pc regs mem
theorem rs_fin {X Y Z : World} {B gp c1 n b6 j nm : Nat} {ps zs : List Value} {pc : List Int} {x : Int} {vph vrg vmm vbf : Value} {vs bs : List Value} {regs : List (List Int)} {mem : List Int}
    (hg : B ≤ gp) (I : IsS X gp 3 ps) (ht : ps.take n = pc.flatMap intE) (hc : n ≤ c1) (hm : c1 ≤ maxLen) (hs : ps.length = c1)
    (Oph : X.ownsRow B 3 1 vph n ((List.replicate n (0 : Int)).flatMap intE)) (hap : vph.ownBlock ≠ some gp) (Org : OwnA X B vrg vs regs) (Omm : X.ownsRow B 2 1 vmm nm (mem.flatMap intE)) (hml : mem.length = nm) (Obf : X.ownsRow B 48 1 vbf bs.length bs) (hbs : bs.length = n) (hbe : ∀ u ∈ bs, ∃ a c, u = .slice a 0 c ∧ (a = none → c = 0))
    (U : Upd X Y gp) (IY : IsS Y gp 3 (ps.set j (.int .i64 x))) (J : IsS Y b6 32 zs) (V : Upd Y Z b6) : RSk Z (.slice (some ⟨gp, 0, none⟩) n c1) vph vrg vmm vbf n (pc.set j x) regs mem := by
 intro W hW
 have keep : ∀ (t s m : Nat) (v : Value) (xs : List Value), X.ownsRow B t s v m xs → v.ownBlock ≠ some gp → t ≠ 32 → W.ownsRow B t s v m xs := fun t s m v xs ho h1 h2 => by
  have hY : Y.ownsRow B t s v m xs := own_same ho fun k hk => U.block k (fun e => h1 (by rw [hk, e]))
  have hZ : Z.ownsRow B t s v m xs := own_same hY fun k hk => V.block k (own_isS hY J h2 hk)
  exact own_same hZ fun k hk => hW k (fun cs I => own_isS hZ I h2 hk rfl) (own_lt hZ hk).2
 have hp : Y.ownsRow B 3 1 (.slice (some ⟨gp, 0, none⟩) n c1) n ((pc.set j x).flatMap intE) := put_own hg (show IsS Y gp 3 (ps.set (0 + j) (.int .i64 x)) by rw [Nat.zero_add]; exact IY) ht hc hm hs
 have hpZ := own_same hp fun k hk => V.block k (own_isS hp J (by decide) hk)
 have hr : ∀ (i : Nat) u xs, vs[i]? = some u → regs[i]? = some xs → W.ownsRow B 2 1 u xs.length (xs.flatMap intE) := fun i u xs hu hx => keep _ _ _ _ _ (Org.row i u xs hu hx) (own_isS' (Org.row i u xs hu hx) I (by decide)) (by decide)
 refine ⟨own_row (own_same hpZ fun k hk => hW k (fun cs I => own_isS hpZ I (by decide) hk rfl) (own_lt hpZ hk).2), own_row (keep _ _ _ _ _ Oph hap (by decide)), ⟨vs, Org.len, own_row (keep _ _ _ _ _ Org.out (own_isS' Org.out I (by decide)) (by decide)), fun i u xs hu hx => own_row (hr i u xs hu hx)⟩, by rw [hml]; exact own_row (keep _ _ _ _ _ Omm (own_isS' Omm I (by decide)) (by decide)), ?_⟩
 refine ⟨bs, by rw [hbs, List.length_replicate], by rw [List.length_replicate, ← hbs]; exact own_row (keep _ _ _ _ _ Obf (own_isS' Obf I (by decide)) (by decide)), fun i u xs hu hx => ?_⟩
 rw [List.getElem?_replicate] at hx
 split at hx
 · cases hx
   obtain ⟨a, c, rfl, hz⟩ := hbe u (List.mem_of_getElem? hu)
   exact ⟨a, c, rfl, Seg.nil _ _, hz⟩
 · cases hx
end Go.Proofs.Ytegpnicajlndlaa

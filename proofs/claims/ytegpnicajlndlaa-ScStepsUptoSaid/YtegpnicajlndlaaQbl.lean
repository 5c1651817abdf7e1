/- PL2, SU2 -/
import Derived.Test.YtegpnicajlndlaaPL1
import Derived.Test.YtegpnicajlndlaaRA4
import Derived.Test.YtegpnicajlndlaaQbi
import Derived.Deep.AppendLies
namespace Go.Proofs.Ytegpnicajlndlaa
open Go.RowKit M
set_option linter.unusedSimpArgs false
set_option linter.unusedVariables false
def picksS (ths : List (List Op5)) (s : ST) (n : Nat) : List Nat := if plainB s then pksL ths s.pc n else []
theorem rep_of {α : Type} {l : List α} {n : Nat} {d : α} (hl : l.length = n) (h : ∀ i, i < n → l.getD i d = d) : l = List.replicate n d := by
 refine List.ext_getElem (by rw [hl, List.length_replicate]) fun i h1 h2 => ?_
 have := h i (by omega)
 rw [List.getD_eq_getElem?_getD, List.getElem?_eq_getElem h1] at this
 rw [List.getElem_replicate]
 exact this
theorem plain_rep {s : ST} {n : Nat} (h : plainB s = true) (hn : s.pc.length = n) (hph : s.ph.length = n) (hbf : s.buf.length = n) : s.ph = List.replicate n 0 ∧ s.buf = List.replicate n [] ∧ s.lock = -1 := by
 obtain ⟨h1, h2⟩ := plain_of h
 rw [hn] at h2
 exact ⟨rep_of hph fun i hi => (h2 i hi).1, rep_of hbf fun i hi => (h2 i hi).2, h1⟩
set_option maxRecDepth 100000 in
set_option maxHeartbeats 4000000 in
theorem plainPicks_any (ths : List (List Op5)) (s : ST) (n ct : Nat) (at0 : Option Addr) (hf : s.Few) (hn : s.pc.length = n) (hph : s.ph.length = n) (hbf : s.buf.length = n) (hnt : ths.length = n) (htt : ths.flatten.length ≤ 1048576) (v1 v2 v3 v4 v5 : Value) (w : World) (hT : RowsV w (.slice at0 n ct) op5L ths) (hS : STV w s v1 v2 v3 v4 v5) :
    Calls Try.prog 53 #[.slice at0 n ct, .agg #[v1, v2, v3, v4, v5, .int .i64 s.lock]] w fun e w' => ∃ v, e = .returned v ∧ w'.ownsRow w.heap.size 68 3 v (picksS ths s n).length ((picksS ths s n).flatMap pkE) ∧ Below w.heap.size w w' := by
 have hPl := fun W (h : STV W s v1 v2 v3 v4 v5) => plain_any s n hf hn hph hbf v1 v2 v3 v4 v5 W h
 obtain ⟨ap, cp, rfl, S1, _⟩ := id hS.pc
 rw [hn] at hPl hS ⊢
 have HS : Hid (STV w s (.slice ap n cp) v2 v3 v4 v5) := hS
 have HT : Hid (RowsV w (.slice at0 n ct) op5L ths) := hT
 have HP : Hid (Seg w ap (s.pc.flatMap intE)) := S1
 have HNT : Hid (ths.length = n) := hnt
 have HNP : Hid (s.pc.length = n) := hn
 have HTT : Hid (ths.flatten.length ≤ 1048576) := htt
 have hn20 : n ≤ 1048576 := by rw [← hn]; exact hf.pc
 have hnI : (n : Int) ≤ 1048576 := by omega
 obtain ⟨lk, hlk⟩ : ∃ k, s.lock = k := ⟨_, rfl⟩
 simp only [hlk] at hPl ⊢
 obtain ⟨pb, hpb⟩ : ∃ b, plainB s = b := ⟨_, rfl⟩
 simp only [hpb] at hPl
 have HPK : Hid (picksS ths s n = if pb then pksL ths s.pc n else []) := by show picksS ths s n = _; unfold picksS; rw [hpb]
 obtain ⟨pc, hpc⟩ : ∃ l, s.pc = l := ⟨_, rfl⟩
 rw [hpc] at HP HNP HPK
 clear hS S1 hT hf hn hph hbf hnt htt hlk hpb hpc
 have t1 : True := trivial
 have t3 : True := trivial
 cases pb with
 | false =>
  go_enter Try.func53, Try.ntmps53
  go_wp2_with (first
   | (clear t1; refine wpList_boxS rfl 32 _ rfl [.slice ap n cp, v2, v3, v4, v5, .int .i64 lk] rfl ?_; intro W1 b3 F1 C1; have B1 := F_b F1; clear F1)
   | (clear t3; refine wpList_loadW rfl 32 _ rfl rfl C1 _ Try.underlying32 rfl infoSt ?_)
   | (go_at_call 100; refine (hPl _ (HS.out.below B1)).mono ?_; rintro e W2 ⟨rfl, B2⟩; clear hPl))
  go_ret
  exact ⟨_, rfl, by rw [HPK.out]; exact own_nil _ _ _ _, Below.then B1 B2⟩
 | true =>
  have HPK' : Hid (picksS ths s n = pksL ths pc n) := HPK.out
  clear HPK
  go_enter Try.func53, Try.ntmps53
  go_wp2_with (first
   | (clear t1; refine wpList_boxS rfl 32 _ rfl [.slice ap n cp, v2, v3, v4, v5, .int .i64 lk] rfl ?_; intro W1 b3 F1 C1; have B1 := F_b F1; clear F1)
   | (clear t3; refine wpList_loadW rfl 32 _ rfl rfl C1 _ Try.underlying32 rfl infoSt ?_)
   | (go_at_call 100; refine (hPl _ (HS.out.below B1)).mono ?_; rintro e W2 ⟨rfl, B2⟩; clear hPl))
  have B02 := Below.then B1 B2
  have HC2 : Hid (IsS W2 b3 32 [.slice ap n cp, v2, v3, v4, v5, .int .i64 lk]) := C1.grown B2
  clear C1
  go_loopw [5, 12] (fun v i wr => ∃ k : Nat, k ≤ n ∧ i = .int .i64 (k : Int) ∧ Hid (wr.ownsRow w.heap.size 68 3 v (pksL ths pc k).length ((pksL ths pc k).flatMap pkE)) ∧ Hid (Below w.heap.size w wr) ∧ Hid (IsS wr b3 32 [.slice ap n cp, v2, v3, v4, v5, .int .i64 lk])) (fun _ i _ => n - (intOf i).toNat)
  case atStart => exact ⟨0, Nat.zero_le _, rfl, own_nil _ _ _ _, B02, HC2⟩
  case round =>
   clear HC2
   obtain ⟨k, hk, rfl, HO, HBw, HC⟩ := hrel
   have BX := HBw.out
   have y0 : wr.cell? ⟨b3, 0, none⟩ = some (.slice ap n cp) := HC.out.cell 0
   by_cases hlt : k < n
   · have hki : (k : Int) < n := by omega
     obtain ⟨th, hth⟩ : ∃ q, ths[k]? = some q := ⟨_, List.getElem?_eq_getElem (by rw [HNT.out]; exact hlt)⟩
     obtain ⟨bt, ot, al, cl, rfl, hbt, yt, _, _⟩ := (HT.out.below BX).at k th hth
     obtain ⟨q, hq⟩ : ∃ q, pc[k]? = some q := ⟨_, List.getElem?_eq_getElem (by rw [HNP.out]; exact hlt)⟩
     obtain ⟨gp, op, rfl, hbp, yp⟩ := (HP.out.below BX).int hq
     have hql : th.length ≤ 1048576 := row_few hth HTT.out
     have e1 : Hid (pc.getD k 0 = q) := by show _ = _; simp [hq]
     have e2 : Hid (ths.getD k [] = th) := by show _ = _; simp [hth]
     obtain ⟨ln, hln⟩ : ∃ n, th.length = n := ⟨_, rfl⟩
     have HLN : Hid (th.length = ln) := hln
     rw [hln] at yt hql
     have hlI : (ln : Int) ≤ 1048576 := by omega
     have HNX := pks_next ths pc k
     rw [e1.out, e2.out, HLN.out] at HNX
     have hpl := pks_len ths pc k
     obtain ⟨L', hL'⟩ : ∃ l, pksL ths pc (k + 1) = l := ⟨_, rfl⟩
     rw [hL'] at HNX
     have HL' : Hid (pksL ths pc (k + 1) = L') := hL'
     clear hL'
     generalize pksL ths pc k = L at *
     obtain ⟨av, cv, hv⟩ := own_form HO.out
     subst hv
     obtain ⟨ll, hll⟩ : ∃ l, L.length = l := ⟨_, rfl⟩
     rw [hll] at HO hpl ⊢
     have HLL : Hid (L.length = ll) := hll
     clear hq hth hln hll
     by_cases hd : q < (ln : Int)
     · rw [if_pos hd] at HNX
       have HNX' : Hid (L' = L ++ [k]) := HNX
       clear HNX
       go_wp2
       refine grow_allW (by kernel_rfl) (by kernel_rfl) ?_
       refine WG.put rfl (v := (.pointer (some ⟨b3, 0, none⟩))) (fun w => by first | rfl | (go_simp; done) | (simp [go_sem, hki]; done) | (simp [execOp, go_sem, hki]; done)) ?_; simp only [sP]
       refine WG.cell rfl 29 _ rfl rfl (y0) (fun w h => by simp [go_sem, h]) ?_; simp only [sP]
       refine WG.put rfl (v := (.int .i64 (k : Int))) (fun w => by first | rfl | (go_simp; done) | (simp [go_sem, hki]; done) | (simp [execOp, go_sem, hki]; done)) ?_; simp only [sP]
       refine WG.put rfl (v := (.pointer (some ⟨gp, op + k, none⟩))) (fun w => by first | rfl | (go_simp; done) | (simp [go_sem, hki]; done) | (simp [execOp, go_sem, hki]; done)) ?_; simp only [sP]
       refine WG.cell rfl 3 _ rfl rfl (yp) (fun w h => by simp [go_sem, h]) ?_; simp only [sP]
       refine WG.put rfl (v := (.slice (some ⟨bt, ot, none⟩) n ct)) (fun w => by first | rfl | (go_simp; done) | (simp [go_sem, hki]; done) | (simp [execOp, go_sem, hki]; done)) ?_; simp only [sP]
       refine WG.put rfl (v := (.int .i64 (k : Int))) (fun w => by first | rfl | (go_simp; done) | (simp [go_sem, hki]; done) | (simp [execOp, go_sem, hki]; done)) ?_; simp only [sP]
       refine WG.put rfl (v := (.pointer (some ⟨bt, ot + k, none⟩))) (fun w => by first | rfl | (go_simp; done) | (simp [go_sem, hki]; done) | (simp [execOp, go_sem, hki]; done)) ?_; simp only [sP]
       refine WG.cell rfl 61 _ rfl rfl (yt) (fun w h => by simp [go_sem, h]) ?_; simp only [sP]
       refine WG.put rfl (v := (.int .i64 (ln : Int))) (fun w => by first | rfl | (go_simp; done) | (simp [go_sem, hki]; done) | (simp [execOp, go_sem, hki]; done)) ?_; simp only [sP]
       refine WG.put rfl (v := (.bool true)) (fun w => by first | rfl | (go_simp; done) | (simp [go_sem, hd, hki]; done) | (simp [execOp, go_sem, hd, hki]; done)) ?_; simp only [sP]
       refine WG.nil ?_
       intro W5 B5
       have O5 := own_below HO.out B5
       have BX5 := Below.then BX B5
       have C5 := HC.out.grown B5
       clear y0 yp yt HO
       have t5 : True := trivial
       go_wp2_with (first
        | (clear t5; refine wpList_bPk rfl _ rfl k rfl ?_; intro W6 b6 F6 I6; have B6 := F_b F6; have O6 := own_below O5 B6; have BX6 := Below.then BX5 B6; have C6 := C5.grown B6)
        | (at_builtin; refine wpList_appM ePk rfl _ _ rfl w.heap.size (.slice av ll cv) ll (L.flatMap pkE) rfl O6 (.slice (some ⟨b6, 0, none⟩) 1 1) 1 (pkE k) rfl (row_isS I6) rfl (by simp [pkE, Value.oneCell']) (by omega) BX6.size ?_; intro v7 W7 O7 G7; have B7 := grown_below BX6 BX6.size O6 G7; have C7 := (G7.block b3 C6.lt (fun e => own_isS' O6 C6 (by decide) e.symm)).trans C6))
       go_roundw
       case rel => exact ⟨k + 1, by omega, by go_num, by show World.ownsRow _ _ _ _ _ _ _; rw [HL'.out, HNX'.out, List.length_append, List.flatMap_append, HLL.out]; simpa using O7, B7, C7⟩
       case measure => simp [intOf]; omega
     · rw [if_neg hd] at HNX
       have HNX' : Hid (L' = L) := HNX
       clear HNX
       go_wp2
       refine grow_allW (by kernel_rfl) (by kernel_rfl) ?_
       refine WG.put rfl (v := (.pointer (some ⟨b3, 0, none⟩))) (fun w => by first | rfl | (go_simp; done) | (simp [go_sem, hki]; done) | (simp [execOp, go_sem, hki]; done)) ?_; simp only [sP]
       refine WG.cell rfl 29 _ rfl rfl (y0) (fun w h => by simp [go_sem, h]) ?_; simp only [sP]
       refine WG.put rfl (v := (.int .i64 (k : Int))) (fun w => by first | rfl | (go_simp; done) | (simp [go_sem, hki]; done) | (simp [execOp, go_sem, hki]; done)) ?_; simp only [sP]
       refine WG.put rfl (v := (.pointer (some ⟨gp, op + k, none⟩))) (fun w => by first | rfl | (go_simp; done) | (simp [go_sem, hki]; done) | (simp [execOp, go_sem, hki]; done)) ?_; simp only [sP]
       refine WG.cell rfl 3 _ rfl rfl (yp) (fun w h => by simp [go_sem, h]) ?_; simp only [sP]
       refine WG.put rfl (v := (.slice (some ⟨bt, ot, none⟩) n ct)) (fun w => by first | rfl | (go_simp; done) | (simp [go_sem, hki]; done) | (simp [execOp, go_sem, hki]; done)) ?_; simp only [sP]
       refine WG.put rfl (v := (.int .i64 (k : Int))) (fun w => by first | rfl | (go_simp; done) | (simp [go_sem, hki]; done) | (simp [execOp, go_sem, hki]; done)) ?_; simp only [sP]
       refine WG.put rfl (v := (.pointer (some ⟨bt, ot + k, none⟩))) (fun w => by first | rfl | (go_simp; done) | (simp [go_sem, hki]; done) | (simp [execOp, go_sem, hki]; done)) ?_; simp only [sP]
       refine WG.cell rfl 61 _ rfl rfl (yt) (fun w h => by simp [go_sem, h]) ?_; simp only [sP]
       refine WG.put rfl (v := (.int .i64 (ln : Int))) (fun w => by first | rfl | (go_simp; done) | (simp [go_sem, hki]; done) | (simp [execOp, go_sem, hki]; done)) ?_; simp only [sP]
       refine WG.put rfl (v := (.bool false)) (fun w => by first | rfl | (go_simp; done) | (simp [go_sem, hd, hki]; done) | (simp [execOp, go_sem, hd, hki]; done)) ?_; simp only [sP]
       refine WG.nil ?_
       intro W5 B5
       have O5 := own_below HO.out B5
       have BX5 := Below.then BX B5
       have C5 := HC.out.grown B5
       clear y0 yp yt HO
       go_wp2
       go_roundw
       case rel => exact ⟨k + 1, by omega, by go_num, by show World.ownsRow _ _ _ _ _ _ _; rw [HL'.out, HNX'.out, HLL.out]; exact O5, BX5, C5⟩
       case measure => simp [intOf]; omega
   · have ek : k = n := by omega
     subst ek
     have hki : ¬ ((k : Int) < k) := by omega
     go_wp2
     go_ret
     exact ⟨_, rfl, by rw [HPK'.out]; exact HO.out, BX⟩
set_option maxRecDepth 100000 in
set_option maxHeartbeats 4000000 in
theorem plainEnds_any (ths : List (List Op5)) (s : ST) (n ct : Nat) (at0 : Option Addr) (hf : s.Few) (hn : s.pc.length = n) (hph : s.ph.length = n) (hbf : s.buf.length = n) (hnt : ths.length = n) (htt : ths.flatten.length ≤ 1048576) (v1 v2 v3 v4 v5 : Value) (w : World) (hT : RowsV w (.slice at0 n ct) op5L ths) (hS : STV w s v1 v2 v3 v4 v5) :
    Calls Try.prog 57 #[.slice at0 n ct, .agg #[v1, v2, v3, v4, v5, .int .i64 s.lock]] w fun e w' => e = .returned (.bool (plainB s && doneB ths s.pc)) ∧ Below w.heap.size w w' := by
 have hPl := fun W (h : STV W s v1 v2 v3 v4 v5) => plain_any s n hf hn hph hbf v1 v2 v3 v4 v5 W h
 obtain ⟨ap, cp, rfl, S1, _⟩ := id hS.pc
 rw [hn] at hPl hS ⊢
 have hn20 : n ≤ 1048576 := by rw [← hn]; exact hf.pc
 have hDn := fun W (h1 : RowsV W (.slice at0 n ct) op5L ths) (h2 : Seg W ap (s.pc.flatMap intE)) => done_any ths s.pc n ct n cp at0 ap v2 v3 v4 v5 (.int .i64 s.lock) W hnt hn rfl hn20 htt h1 h2
 have HS : Hid (STV w s (.slice ap n cp) v2 v3 v4 v5) := hS
 have HT : Hid (RowsV w (.slice at0 n ct) op5L ths) := hT
 have HP : Hid (Seg w ap (s.pc.flatMap intE)) := S1
 obtain ⟨lk, hlk⟩ : ∃ k, s.lock = k := ⟨_, rfl⟩
 simp only [hlk] at hPl hDn ⊢
 obtain ⟨pb, hpb⟩ : ∃ b, plainB s = b := ⟨_, rfl⟩
 obtain ⟨db, hdb⟩ : ∃ b, doneB ths s.pc = b := ⟨_, rfl⟩
 simp only [hpb] at hPl ⊢
 simp only [hdb] at hDn ⊢
 clear hS S1 hT hf hn hph hbf hnt htt hlk hpb hdb
 have t1 : True := trivial
 have t3 : True := trivial
 have t4 : True := trivial
 cases pb with
 | false =>
  go_enter Try.func57, Try.ntmps57
  go_wp2_with (first
   | (clear t1; refine wpList_boxS rfl 32 _ rfl [.slice ap n cp, v2, v3, v4, v5, .int .i64 lk] rfl ?_; intro W1 b3 F1 C1; have B1 := F_b F1; clear F1)
   | (clear t3; refine wpList_loadW rfl 32 _ rfl rfl C1 _ Try.underlying32 rfl infoSt ?_)
   | (go_at_call 100; refine (hPl _ (HS.out.below B1)).mono ?_; rintro e W2 ⟨rfl, B2⟩; clear hPl))
  go_ret
  exact ⟨rfl, Below.then B1 B2⟩
 | true =>
  go_enter Try.func57, Try.ntmps57
  go_wp2_with (first
   | (clear t1; refine wpList_boxS rfl 32 _ rfl [.slice ap n cp, v2, v3, v4, v5, .int .i64 lk] rfl ?_; intro W1 b3 F1 C1; have B1 := F_b F1; clear F1)
   | (clear t3; refine wpList_loadW rfl 32 _ rfl rfl C1 _ Try.underlying32 rfl infoSt ?_)
   | (go_at_call 100; refine (hPl _ (HS.out.below B1)).mono ?_; rintro e W2 ⟨rfl, B2⟩; have B02 := Below.then B1 B2; have C2 := C1.grown B2; clear hPl)
   | (clear t4; refine wpList_loadGW rfl 32 _ rfl rfl C2 _ Try.underlying32 rfl infoSt ?_)
   | (go_at_call 76; refine (hDn _ (HT.out.below B02) (HP.out.below B02)).mono ?_; rintro e W3 ⟨rfl, B3⟩; clear hDn))
  go_ret
  exact ⟨by simp, Below.then B02 B3⟩
set_option maxRecDepth 100000 in
set_option maxHeartbeats 4000000 in
theorem rpicksG_any (ths : List (List Op5)) (s : ST) (n ct : Nat) (at0 : Option Addr) (hf : s.Few) (hn : s.pc.length = n) (hph : s.ph.length = n) (hbf : s.buf.length = n) (hnt : ths.length = n) (htt : ths.flatten.length ≤ 1048576) (vr vl vi vj v1 v2 v3 v4 v5 : Value) (w : World) (hT : RowsV w (.slice at0 n ct) op5L ths) (hS : STV w s v1 v2 v3 v4 v5) :
    Calls Try.prog 59 #[.agg #[.slice at0 n ct, vr, vl, vi, vj], .agg #[v1, v2, v3, v4, v5, .int .i64 s.lock]] w fun e w' => ∃ v, e = .returned v ∧ w'.ownsRow w.heap.size 68 3 v (picksS ths s n).length ((picksS ths s n).flatMap pkE) ∧ Below w.heap.size w w' := by
 have hn20 : n ≤ 1048576 := by rw [← hn]; exact hf.pc
 cases hpb : plainB s with
 | true =>
  obtain ⟨e1, e2, e3⟩ := plain_rep hpb hn hph hbf
  have hpk : picksS ths s n = pksL ths s.pc n := by unfold picksS; rw [hpb]; rfl
  rw [hpk, e3]
  have o3 : v3.oneCell' = true := by obtain ⟨a, c, e⟩ := hS.rg.form; rw [e]; rfl
  have o4 : v4.oneCell' = true := rowV_oneX hS.mm
  obtain ⟨ap, cp, rfl, S1, _⟩ := id hS.pc
  obtain ⟨ah, ch, rfl, _, _⟩ := id hS.ph
  obtain ⟨ab, cb, rfl⟩ := hS.bf.form
  have h2 := hS.ph
  have h5 := hS.bf
  rw [hph] at h2
  rw [hbf] at h5
  rw [e1] at h2
  rw [e2] at h5
  rw [hn, hph, hbf]
  exact rpicks_any ths s.pc n ct cp ch cb at0 ap ah ab vr vl vi vj v3 v4 w o3 o4 hnt hn hn20 htt hT S1 h2 h5
 | false =>
  have hpk : picksS ths s n = [] := by unfold picksS; rw [hpb]; rfl
  rw [hpk]
  have hPl := fun W (h : STV W s v1 v2 v3 v4 v5) => rplainG_any s n hf hn hph hbf v1 v2 v3 v4 v5 W h
  simp only [hpb] at hPl
  have HS : Hid (STV w s v1 v2 v3 v4 v5) := hS
  obtain ⟨lk, hlk⟩ : ∃ k, s.lock = k := ⟨_, rfl⟩
  simp only [hlk] at hPl ⊢
  clear hS hT hf hn hph hbf hnt htt hlk hpb hpk
  have t1 : True := trivial
  have t2 : True := trivial
  have t3 : True := trivial
  go_enter Try.func59, Try.ntmps59
  go_wp2_with (first
   | (clear t1; refine wpList_boxS rfl 28 _ rfl [.slice at0 n ct, vr, vl, vi, vj] rfl ?_; intro W0 b2 F0 C0; have B0 := F_b F0; clear F0)
   | (clear t2; refine wpList_boxS rfl 32 _ rfl [v1, v2, v3, v4, v5, .int .i64 lk] rfl ?_; intro W1 b3 F1 C1; have B1 := F1.trans B0 B0.size; clear F1 C0)
   | (clear t3; refine wpList_loadW rfl 32 _ rfl rfl C1 _ Try.underlying32 rfl infoSt ?_)
   | (go_at_call 101; refine (hPl _ (HS.out.below B1)).mono ?_; rintro e W2 ⟨rfl, B2⟩; clear hPl))
  go_ret
  exact ⟨_, rfl, own_nil _ _ _ _, Below.then B1 B2⟩
set_option maxRecDepth 100000 in
set_option maxHeartbeats 4000000 in
theorem rends_any (ths : List (List Op5)) (s : ST) (n ct : Nat) (at0 : Option Addr) (hf : s.Few) (hn : s.pc.length = n) (hph : s.ph.length = n) (hbf : s.buf.length = n) (hnt : ths.length = n) (htt : ths.flatten.length ≤ 1048576) (hle : LeI ths s.pc) (vr vl vi vj v1 v2 v3 v4 v5 : Value) (w : World) (hT : RowsV w (.slice at0 n ct) op5L ths) (hS : STV w s v1 v2 v3 v4 v5) :
    Calls Try.prog 60 #[.agg #[.slice at0 n ct, vr, vl, vi, vj], .agg #[v1, v2, v3, v4, v5, .int .i64 s.lock]] w fun e w' => e = .returned (.bool (plainB s && doneB ths s.pc)) ∧ Below w.heap.size w w' := by
 have hPl := fun W (h : STV W s v1 v2 v3 v4 v5) => rplainG_any s n hf hn hph hbf v1 v2 v3 v4 v5 W h
 obtain ⟨ap, cp, rfl, S1, _⟩ := id hS.pc
 rw [hn] at hPl hS ⊢
 have hn20 : n ≤ 1048576 := by rw [← hn]; exact hf.pc
 have hDn := fun W (h1 : RowsV W (.slice at0 n ct) op5L ths) (h2 : Seg W ap (s.pc.flatMap intE)) => rdone_any ths s.pc n ct cp at0 ap vr vl vi vj v2 v3 v4 v5 (.int .i64 s.lock) W hnt hn hn20 htt hle h1 h2
 have HS : Hid (STV w s (.slice ap n cp) v2 v3 v4 v5) := hS
 have HT : Hid (RowsV w (.slice at0 n ct) op5L ths) := hT
 have HP : Hid (Seg w ap (s.pc.flatMap intE)) := S1
 obtain ⟨lk, hlk⟩ : ∃ k, s.lock = k := ⟨_, rfl⟩
 simp only [hlk] at hPl hDn ⊢
 obtain ⟨pb, hpb⟩ : ∃ b, plainB s = b := ⟨_, rfl⟩
 obtain ⟨db, hdb⟩ : ∃ b, doneB ths s.pc = b := ⟨_, rfl⟩
 simp only [hpb] at hPl ⊢
 simp only [hdb] at hDn ⊢
 clear hS S1 hT hf hn hph hbf hnt htt hlk hpb hdb hle
 have t1 : True := trivial
 have t2 : True := trivial
 have t3 : True := trivial
 have t4 : True := trivial
 have t5 : True := trivial
 cases pb with
 | false =>
  go_enter Try.func60, Try.ntmps60
  go_wp2_with (first
   | (clear t1; refine wpList_boxS rfl 28 _ rfl [.slice at0 n ct, vr, vl, vi, vj] rfl ?_; intro W0 b2 F0 C0; have B0 := F_b F0; clear F0)
   | (clear t2; refine wpList_boxS rfl 32 _ rfl [.slice ap n cp, v2, v3, v4, v5, .int .i64 lk] rfl ?_; intro W1 b3 F1 C1; have B1 := F1.trans B0 B0.size; have P1 := C0.fresh F1; clear F1 C0)
   | (clear t3; refine wpList_loadW rfl 32 _ rfl rfl C1 _ Try.underlying32 rfl infoSt ?_)
   | (go_at_call 101; refine (hPl _ (HS.out.below B1)).mono ?_; rintro e W2 ⟨rfl, B2⟩; clear hPl))
  go_ret
  exact ⟨rfl, Below.then B1 B2⟩
 | true =>
  go_enter Try.func60, Try.ntmps60
  go_wp2_with (first
   | (clear t1; refine wpList_boxS rfl 28 _ rfl [.slice at0 n ct, vr, vl, vi, vj] rfl ?_; intro W0 b2 F0 C0; have B0 := F_b F0; clear F0)
   | (clear t2; refine wpList_boxS rfl 32 _ rfl [.slice ap n cp, v2, v3, v4, v5, .int .i64 lk] rfl ?_; intro W1 b3 F1 C1; have B1 := F1.trans B0 B0.size; have P1 := C0.fresh F1; clear F1 C0)
   | (clear t3; refine wpList_loadW rfl 32 _ rfl rfl C1 _ Try.underlying32 rfl infoSt ?_)
   | (go_at_call 101; refine (hPl _ (HS.out.below B1)).mono ?_; rintro e W2 ⟨rfl, B2⟩; have B02 := Below.then B1 B2; have C2 := C1.grown B2; have P2 := P1.grown B2; clear hPl)
   | (clear t4; refine wpList_loadGW rfl 28 _ rfl rfl P2 _ Try.underlying28 rfl infoPg ?_)
   | (clear t5; refine wpList_loadGW rfl 32 _ rfl rfl C2 _ Try.underlying32 rfl infoSt ?_)
   | (go_at_call 77; refine (hDn _ (HT.out.below B02) (HP.out.below B02)).mono ?_; rintro e W3 ⟨rfl, B3⟩; clear hDn))
  go_ret
  exact ⟨by simp, Below.then B02 B3⟩
structure OutR (lo hi : Nat) (w W : World) : Prop where
 os : W.os = w.os
 tape : W.tape = w.tape
 output : W.output = w.output
 size : w.heap.size ≤ W.heap.size
 block : ∀ k, k < w.heap.size → (k < lo ∨ hi ≤ k) → W.heap[k]? = w.heap[k]?
section
variable {lo hi B b t : Nat} {w0 w W W' : World} {cs : List Value}
theorem OutR.refl (lo hi : Nat) (w : World) : OutR lo hi w w := ⟨rfl, rfl, rfl, Nat.le_refl _, fun _ _ _ => rfl⟩
theorem OutR.upd (h : OutR lo hi w W) (U : Upd W W' b) (hb : (lo ≤ b ∧ b < hi) ∨ w.heap.size ≤ b) : OutR lo hi w W' :=
 ⟨U.os.trans h.os, U.tape.trans h.tape, U.output.trans h.output, by rw [U.size]; exact h.size, fun k hk ho => (U.block k (by omega)).trans (h.block k hk ho)⟩
theorem OutR.isS (h : OutR lo hi w W) (I : IsS w b t cs) (hb : b < lo ∨ hi ≤ b) : IsS W b t cs := (h.block b I.lt hb).trans I
theorem OutR.pre (h : OutR lo hi w W) (hB : Below B w0 w) (h1 : B ≤ lo) (h2 : B ≤ w.heap.size) : Below B w0 W :=
 ⟨h.os.trans hB.os, h.tape.trans hB.tape, h.output.trans hB.output, Nat.le_trans hB.size h.size, fun k hk => (h.block k (by omega) (by omega)).trans (hB.block k hk)⟩
end
section
variable {W0 W W' : World} {lo hi : Nat} {v1 v3 v4 v5 : Value} {vs bs : List Value} {n n4 i : Nat} {ls : List Nat}
end
end Go.Proofs.Ytegpnicajlndlaa

/- SM5 -/
import Derived.Test.YtegpnicajlndlaaQbt
import Derived.Test.YtegpnicajlndlaaQbm
namespace Go.Proofs.Ytegpnicajlndlaa
open Go.RowKit M
set_option linter.unusedSimpArgs false
set_option linter.unusedVariables false
set_option maxRecDepth 100000 in
set_option maxHeartbeats 4000000 in
theorem hach3_any (p : PG) (hv : Vld p) (hf : p.Few) (T : ByteArray) (hT : T.size ≤ 1099511627776) (bz bp bs be : Nat) (w : World) (hM : MH w p bz bp bs be) :
    Calls Try.prog 68 #[.string T, .pointer (some ⟨bz, 0, none⟩), .pointer (some ⟨be, 0, none⟩)] w fun e w' => e = .returned (endV (endH p T)) ∧ Below w.heap.size w w' := by
 obtain ⟨a1, c1, a2, c2, Z0, SG1, SG2⟩ := hM.z.ex
 have hSt := fun W h1 h2 => stateOf2_any p hv hf T hT a1 a2 c1 c2 W h1 h2
 have hfin0 : (finL []).length = 49 := finL_len (by simp)
 cases hrd : readS T (shpOf p) with
 | none =>
  have hpk : endH p T = none := by unfold endH; rw [hrd]
  rw [hpk]
  rw [hrd] at hSt
  have hSt' := fun W h1 h2 => (hSt W h1 h2).mono fun e w' h => h.1 rfl
  clear hSt
  obtain ⟨n, hn⟩ : ∃ n, p.threads.length = n := ⟨_, rfl⟩
  obtain ⟨nl, hnl⟩ : ∃ n, p.locs.length = n := ⟨_, rfl⟩
  have HM : Hid (MH w p bz bp bs be) := hM
  have HZ : Hid (IsS w bz 105 [.slice a1 n c1, .slice a2 n c2, .int .i64 (nl : Int)]) := by rw [← hn, ← hnl]; exact Z0
  have HG : Hid (Seg w a1 ((natI (shpOf p).ins).flatMap intE) ∧ Seg w a2 ((natI (shpOf p).rgs).flatMap intE)) := ⟨SG1, SG2⟩
  simp only [hn, hnl] at hSt'
  clear hM hv hf hT Z0 SG1 SG2 hn hnl hrd hpk
  have tf : True := trivial
  have tz : True := trivial
  have t2 : True := trivial
  have t3 : True := trivial
  have t4 : True := trivial
  go_enter Try.func68, Try.ntmps68
  go_wp2_with (first
   | (clear tf; refine wpList_allocS rfl 80 rfl (finL []) zeroFin ?_; intro W1 b4 F1 D1; have B1 := F_b F1; have hb4 : w.heap.size ≤ b4 := Nat.le_of_eq F1.at'.symm; have hb4l := D1.lt; clear F1)
   | (clear tz; refine wpList_loadW rfl 105 _ rfl rfl (HZ.out.grown B1) _ Try.underlying105 rfl infoShp ?_)
   | (go_at_call 44; refine (hSt' _ (HG.out.1.below B1) (HG.out.2.below B1)).mono ?_; rintro e W2 ⟨rfl, B2x⟩; have D2 := D1.grown B2x; have B2 := Below.then B1 B2x)
   | (clear t2; refine wpList_allocS rfl 32 rfl zst zeroSt ?_; intro W3 b6 F3 I3; have D3 := D2.fresh F3; have B3 := F3.trans B2 B2.size; have hb6 : w.heap.size ≤ b6 := Nat.le_trans B2.size (Nat.le_of_eq F3.at'.symm); clear F3)
   | (clear t3; refine wpList_storeW rfl 32 _ _ rfl rfl zst rfl I3 rfl infoSt zst_one ?_; intro W4 U4 I4; have D4 := isS_updT D3 I3 (by decide) U4; have B4 := U4.trans B3 hb6; clear U4)
   | (clear t4; refine wpList_b0Fin rfl rfl ?_)
   | (refine wpList_storeW rfl 80 _ _ rfl rfl (finL []) rfl D4 rfl (by rw [hfin0]; exact infoFin) (finL_one _) ?_; intro W8 U8 D8; have B8 := U8.trans B4 hb4))
  exact ret_ST rfl rfl rfl D8 _ Try.underlying80 rfl (by rw [hfin0]; exact infoFin) _ rfl ⟨rfl, B8⟩
 | some s =>
  have hfit := (readS_some hrd).1
  have h48 := vals_48 hv hfit
  have hfl : (finL (s.regs.flatten ++ s.mem)).length = 49 := finL_len h48
  obtain ⟨hI, _⟩ := inv_fits hv hfit
  have hfw := few_fits hv hfit
  rw [hrd] at hSt
  have hSt' := fun W h1 h2 => (hSt W h1 h2).mono fun e w' h => h.2 s rfl
  clear hSt
  have e1 : (shpOf p).ins.length = p.threads.length := (shp_len hv).1
  have hpn : s.pc.length = p.threads.length := by rw [hfit.pc, e1]
  have hq : s.pc[0]? = some (s.pc.getD 0 0) := by
   have h0 : 0 < s.pc.length := by rw [hpn]; exact hv.n0
   rw [List.getD_eq_getElem?_getD, List.getElem?_eq_getElem h0]; rfl
  have hN3 := fun W v1 v2 v3 v4 v5 (h2 : STV W s v1 v2 v3 v4 v5) => sm3_any s s.pc.length rfl (by rw [hpn]; exact hv.n0) hfw.pc _ hq v1 v2 v3 v4 v5 W h2
  have hFin := fun W v1 v2 v3 v4 v5 (h : STV W s v1 v2 v3 v4 v5) => finalOf2_any s hfw h48 v1 v2 v3 v4 v5 W h
  obtain ⟨vals, hvals⟩ : ∃ l, s.regs.flatten ++ s.mem = l := ⟨_, rfl⟩
  rw [hvals] at hfl
  simp only [hvals] at hFin
  obtain ⟨eb, heb⟩ : ∃ b, decide (1 < s.pc.getD 0 0) = b := ⟨_, rfl⟩
  simp only [heb] at hN3
  have HE : Hid ((eb = true → endV (endH p T) = .tuple #[.agg (finL vals).toArray, .bool true]) ∧ (eb = false → endV (endH p T) = .tuple #[.agg (finL []).toArray, .bool false])) := by
   refine ⟨fun h => ?_, fun h => ?_⟩
   · have : endH p T = some s := by unfold endH; rw [hrd]; simp only [heb, h, if_true]
     rw [this, ← hvals]; rfl
   · have : endH p T = none := by unfold endH; rw [hrd]; simp only [heb, h, Bool.false_eq_true, if_false]
     rw [this]; rfl
  obtain ⟨V, hV⟩ : ∃ v, endV (endH p T) = v := ⟨_, rfl⟩
  rw [hV] at HE ⊢
  obtain ⟨lk, hlk⟩ : ∃ k, s.lock = k := ⟨_, rfl⟩
  simp only [hlk] at hSt' hN3 hFin
  obtain ⟨n, hn⟩ : ∃ n, p.threads.length = n := ⟨_, rfl⟩
  obtain ⟨nl, hnl⟩ : ∃ n, p.locs.length = n := ⟨_, rfl⟩
  have HM : Hid (MH w p bz bp bs be) := hM
  have HZ : Hid (IsS w bz 105 [.slice a1 n c1, .slice a2 n c2, .int .i64 (nl : Int)]) := by rw [← hn, ← hnl]; exact Z0
  have HG : Hid (Seg w a1 ((natI (shpOf p).ins).flatMap intE) ∧ Seg w a2 ((natI (shpOf p).rgs).flatMap intE)) := ⟨SG1, SG2⟩
  simp only [hn, hnl] at hSt'
  clear hM hv hf hT Z0 SG1 SG2 hn hnl hrd hfit h48 hI hfw hvals heb hV hlk e1 hpn hq
  have tf : True := trivial
  have tz : True := trivial
  have t2 : True := trivial
  have t3 : True := trivial
  have t4 : True := trivial
  have t5 : True := trivial
  have t6 : True := trivial
  have t7 : True := trivial
  have t8 : True := trivial
  have t9 : True := trivial
  cases eb with
  | true =>
   have HV : Hid (V = .tuple #[.agg (finL vals).toArray, .bool true]) := HE.out.1 rfl
   clear HE
   go_enter Try.func68, Try.ntmps68
   go_wp2_with (first
    | (clear tf; refine wpList_allocS rfl 80 rfl (finL []) zeroFin ?_; intro W1 b4 F1 D1; have B1 := F_b F1; have hb4 : w.heap.size ≤ b4 := Nat.le_of_eq F1.at'.symm; have hb4l := D1.lt; clear F1)
    | (clear tz; refine wpList_loadW rfl 105 _ rfl rfl (HZ.out.grown B1) _ Try.underlying105 rfl infoShp ?_)
    | (go_at_call 44; refine (hSt' _ (HG.out.1.below B1) (HG.out.2.below B1)).mono ?_; rintro e W2 ⟨v1, v2, v3, v4, v5, vs, bs2, rfl, S2, _, B2x⟩; have hone := stv_one lk S2.stv; have D2 := D1.grown B2x; have B2 := Below.then B1 B2x)
    | (clear t2; refine wpList_allocS rfl 32 rfl zst zeroSt ?_; intro W3 b6 F3 I3; have S3 := S2.below (F_b F3); have D3 := D2.fresh F3; have B3 := F3.trans B2 B2.size; have hb6 : W1.heap.size ≤ b6 := Nat.le_trans B2x.size (Nat.le_of_eq F3.at'.symm); clear F3)
    | (clear t3; refine wpList_storeW rfl 32 _ _ rfl rfl [v1, v2, v3, v4, v5, .int .i64 lk] rfl I3 rfl infoSt hone ?_; intro W4 U4 I4; have S4 := S3.updS I3 U4; have D4 := isS_updT D3 I3 (by decide) U4; have B4 := U4.trans B3 (Nat.le_trans B1.size hb6); clear U4 I3 S3 D3)
    | (clear t4; refine wpList_loadW rfl 32 _ rfl rfl I4 _ Try.underlying32 rfl infoSt ?_)
    | (go_at_call 69; refine (hFin _ _ _ _ _ _ S4.stv).mono ?_; rintro e W5 ⟨rfl, B5x⟩; have D5 := D4.grown B5x; have S5 := S4.below B5x; have I5 := I4.grown B5x; have B5 := Below.then B4 B5x)
    | (clear t5; refine wpList_allocS rfl 80 rfl (finL []) zeroFin ?_; intro W6 b8 F6 G6; have D6 := D5.fresh F6; have S6 := S5.below (F_b F6); have I6 := I5.fresh F6; have B6 := F6.trans B5 B5.size; have hb8 : w.heap.size ≤ b8 := Nat.le_trans B5.size (Nat.le_of_eq F6.at'.symm); have n48 : b4 ≠ b8 := (by have := D5.lt; have := F6.at'; omega); clear F6)
    | (clear t6; refine wpList_storeW rfl 80 _ _ rfl rfl (finL vals) rfl G6 (by rw [hfin0, hfl]) (by rw [hfl]; exact infoFin) (finL_one _) ?_; intro W7 U7 G7; have D7 := D6.upd U7 n48; have S7 := S6.updF G6 U7; have I7 := isS_updT I6 G6 (by decide) U7; have B7 := U7.trans B6 hb8; have M7 := HM.out.below B7; clear U7 G6)
    | (clear t7; refine wpList_loadF rfl _ _ rfl rfl M7.fe (fun w h => by simp [go_sem, h]) ?_)
    | (clear t8; refine wpList_loadW rfl 32 _ rfl rfl I7 _ Try.underlying32 rfl infoSt ?_)
    | (go_at_call 27; refine (hN3 _ _ _ _ _ _ S7.stv).mono ?_; rintro e W8 ⟨rfl, B8x⟩; have D8 := D7.grown B8x; have G8 := G7.grown B8x; have B8 := Below.then B7 B8x)
    | (clear t9; refine wpList_loadW rfl 80 _ rfl rfl G8 _ Try.underlying80 rfl (by rw [hfl]; exact infoFin) ?_)
    | (refine wpList_storeW rfl 80 _ _ rfl rfl (finL vals) rfl D8 (by rw [hfin0, hfl]) (by rw [hfl]; exact infoFin) (finL_one _) ?_; intro W9 U9 D9; have B9 := U9.trans B8 hb4))
   exact ret_ST rfl rfl rfl D9 _ Try.underlying80 rfl (by rw [hfl]; exact infoFin) _ rfl ⟨congrArg Ending.returned HV.out.symm, B9⟩
  | false =>
   have HV : Hid (V = .tuple #[.agg (finL []).toArray, .bool false]) := HE.out.2 rfl
   clear HE
   go_enter Try.func68, Try.ntmps68
   go_wp2_with (first
    | (clear tf; refine wpList_allocS rfl 80 rfl (finL []) zeroFin ?_; intro W1 b4 F1 D1; have B1 := F_b F1; have hb4 : w.heap.size ≤ b4 := Nat.le_of_eq F1.at'.symm; have hb4l := D1.lt; clear F1)
    | (clear tz; refine wpList_loadW rfl 105 _ rfl rfl (HZ.out.grown B1) _ Try.underlying105 rfl infoShp ?_)
    | (go_at_call 44; refine (hSt' _ (HG.out.1.below B1) (HG.out.2.below B1)).mono ?_; rintro e W2 ⟨v1, v2, v3, v4, v5, vs, bs2, rfl, S2, _, B2x⟩; have hone := stv_one lk S2.stv; have D2 := D1.grown B2x; have B2 := Below.then B1 B2x)
    | (clear t2; refine wpList_allocS rfl 32 rfl zst zeroSt ?_; intro W3 b6 F3 I3; have S3 := S2.below (F_b F3); have D3 := D2.fresh F3; have B3 := F3.trans B2 B2.size; have hb6 : W1.heap.size ≤ b6 := Nat.le_trans B2x.size (Nat.le_of_eq F3.at'.symm); clear F3)
    | (clear t3; refine wpList_storeW rfl 32 _ _ rfl rfl [v1, v2, v3, v4, v5, .int .i64 lk] rfl I3 rfl infoSt hone ?_; intro W4 U4 I4; have S4 := S3.updS I3 U4; have D4 := isS_updT D3 I3 (by decide) U4; have B4 := U4.trans B3 (Nat.le_trans B1.size hb6); clear U4 I3 S3 D3)
    | (clear t4; refine wpList_loadW rfl 32 _ rfl rfl I4 _ Try.underlying32 rfl infoSt ?_)
    | (go_at_call 69; refine (hFin _ _ _ _ _ _ S4.stv).mono ?_; rintro e W5 ⟨rfl, B5x⟩; have D5 := D4.grown B5x; have S5 := S4.below B5x; have I5 := I4.grown B5x; have B5 := Below.then B4 B5x)
    | (clear t5; refine wpList_allocS rfl 80 rfl (finL []) zeroFin ?_; intro W6 b8 F6 G6; have D6 := D5.fresh F6; have S6 := S5.below (F_b F6); have I6 := I5.fresh F6; have B6 := F6.trans B5 B5.size; have hb8 : w.heap.size ≤ b8 := Nat.le_trans B5.size (Nat.le_of_eq F6.at'.symm); have n48 : b4 ≠ b8 := (by have := D5.lt; have := F6.at'; omega); clear F6)
    | (clear t6; refine wpList_storeW rfl 80 _ _ rfl rfl (finL vals) rfl G6 (by rw [hfin0, hfl]) (by rw [hfl]; exact infoFin) (finL_one _) ?_; intro W7 U7 G7; have D7 := D6.upd U7 n48; have S7 := S6.updF G6 U7; have I7 := isS_updT I6 G6 (by decide) U7; have B7 := U7.trans B6 hb8; have M7 := HM.out.below B7; clear U7 G6)
    | (clear t7; refine wpList_loadF rfl _ _ rfl rfl M7.fe (fun w h => by simp [go_sem, h]) ?_)
    | (clear t8; refine wpList_loadW rfl 32 _ rfl rfl I7 _ Try.underlying32 rfl infoSt ?_)
    | (go_at_call 27; refine (hN3 _ _ _ _ _ _ S7.stv).mono ?_; rintro e W8 ⟨rfl, B8x⟩; have D8 := D7.grown B8x; have G8 := G7.grown B8x; have B8 := Below.then B7 B8x)
    | (clear t9; refine wpList_b0Fin rfl rfl ?_)
    | (refine wpList_storeW rfl 80 _ _ rfl rfl (finL []) rfl D8 rfl (by rw [hfin0]; exact infoFin) (finL_one _) ?_; intro W9 U9 D9; have B9 := U9.trans B8 hb4))
   exact ret_ST rfl rfl rfl D9 _ Try.underlying80 rfl (by rw [hfin0]; exact infoFin) _ rfl ⟨congrArg Ending.returned HV.out.symm, B9⟩
end Go.Proofs.Ytegpnicajlndlaa

/- SM6 -/
import Derived.Test.YtegpnicajlndlaaSM5
namespace Go.Proofs.Ytegpnicajlndlaa
open Go.RowKit M
set_option linter.unusedSimpArgs false
set_option linter.unusedVariables false
theorem hop_pc {p : PG} (hv : Vld p) (hf : p.Few) {s : ST} (hfit : Fits (shpOf p) s) : ∀ (j : Nat) q, s.pc[j]? = some q → 0 ≤ q ∧ q ≤ 1048576 := by
 intro j q hq
 have hj : j < (shpOf p).ins.length := by rw [← hfit.pc]; exact (List.getElem?_eq_some_iff.1 hq).1
 have h := (hfit.th j hj).2.1
 have eq : s.pc.getD j 0 = q := by rw [List.getD_eq_getElem?_getD, hq]; rfl
 rw [eq] at h
 have hi : (shpOf p).ins.getD j 0 ≤ 1048576 := by
  rw [List.getD_eq_getElem?_getD, List.getElem?_eq_getElem hj]
  have hm : (shpOf p).ins[j] ∈ (shpOf p).ins := List.getElem_mem hj
  unfold shpOf at hm
  obtain ⟨l, hl, e⟩ := List.mem_map.1 hm
  show (shpOf p).ins[j] ≤ _
  unfold shpOf
  rw [← e]
  exact Nat.le_trans (flat_mem hl) hf.tt
 omega
theorem lk_le {p : PG} (hv : Vld p) {u : ST} (h : Fits (shpOf p) u) : -1 ≤ u.lock ∧ u.lock ≤ 1048576 := by
 have h1 := h.lk
 have e := (shp_len hv).1
 have h4 := hv.n4
 omega
theorem hop_keeps {s u : ST} {k : Int × Int × Int} (hfs : s.Few) (hw : Wid s) (hpc : ∀ (j : Nat) q, s.pc[j]? = some q → 0 ≤ q ∧ q ≤ 1048576) (h : hopK s k = some u) : u.Few ∧ ((-1 ≤ u.lock ∧ u.lock ≤ 1048576) → Wid u) := by
 unfold hopK at h
 split at h
 · rename_i hk
   cases h
   obtain ⟨j, hj, hjn⟩ := nat_of hk
   rw [hj, Int.toNat_natCast]
   obtain ⟨q, hq⟩ : ∃ q, s.pc[j]? = some q := ⟨_, List.getElem?_eq_getElem hjn⟩
   obtain ⟨q0, q1⟩ := hpc j q hq
   have eq : s.pc.getD j 0 = q := by rw [List.getD_eq_getElem?_getD, hq]; rfl
   rw [eq]
   refine ⟨⟨by show (s.pc.set j _).length ≤ _; rw [List.length_set]; exact hfs.pc, hfs.ph, hfs.rg, hfs.rr, hfs.mm, hfs.bf, hfs.bb⟩, fun hl => ⟨fun v hv => ?_, hw.ph, hw.rg, hw.mm, hw.bf, ?_⟩⟩
   · rcases List.mem_or_eq_of_mem_set hv with h | h
     · exact hw.pc v h
     · subst h; unfold I64; omega
   · obtain ⟨h1, h2⟩ := hl
     unfold I64
     omega
 · cases h
set_option maxRecDepth 100000 in
set_option maxHeartbeats 4000000 in
theorem hach2_any (p : PG) (hv : Vld p) (hf : p.Few) (T : ByteArray) (hT : T.size ≤ 1099511627776) (k : Int × Int × Int) (bz bp bs be : Nat) (w : World) (hM : MH w p bz bp bs be) :
    Calls Try.prog 67 #[.string T, .agg (pkL k).toArray, .pointer (some ⟨bz, 0, none⟩), .pointer (some ⟨bs, 0, none⟩)] w fun e w' => e = .returned (stpV (stepH p T k)) ∧ Below w.heap.size w w' := by
 obtain ⟨a1, c1, a2, c2, Z0, SG1, SG2⟩ := hM.z.ex
 have hSt := fun W h1 h2 => stateOf2_any p hv hf T hT a1 a2 c1 c2 W h1 h2
 cases hrd : readS T (shpOf p) with
 | none =>
  have hpk : stepH p T k = none := by unfold stepH; rw [hrd]
  rw [hpk]
  rw [hrd] at hSt
  have hSt' := fun W h1 h2 => (hSt W h1 h2).mono fun e w' h => h.1 rfl
  clear hSt
  obtain ⟨n, hn⟩ : ∃ n, p.threads.length = n := ⟨_, rfl⟩
  obtain ⟨nl, hnl⟩ : ∃ n, p.locs.length = n := ⟨_, rfl⟩
  have HM : Hid (MH w p bz bp bs be) := hM
  have HZ : Hid (IsS w bz 105 [.slice a1 n c1, .slice a2 n c2, .int .i64 (nl : Int)]) := by rw [← hn, ← hnl]; exact Z0
  have HG : Hid (Seg w a1 ((natI (shpOf p).ins).flatMap intE) ∧ Seg w a2 ((natI (shpOf p).rgs).flatMap intE)) := ⟨SG1, SG2⟩
  simp only [hn, hnl] at hSt'
  clear hM hv hf hT Z0 SG1 SG2 hn hnl hrd hpk
  have tf : True := trivial
  have tz : True := trivial
  have t2 : True := trivial
  have t3 : True := trivial
  go_enter Try.func67, Try.ntmps67
  go_wp2_with (first
   | (clear tf; refine wpList_boxS rfl 68 _ rfl (pkL k) rfl ?_; intro W1 b5 F1 K1; have B1 := F_b F1; clear F1)
   | (clear tz; refine wpList_loadW rfl 105 _ rfl rfl (HZ.out.grown B1) _ Try.underlying105 rfl infoShp ?_)
   | (go_at_call 44; refine (hSt' _ (HG.out.1.below B1) (HG.out.2.below B1)).mono ?_; rintro e W2 ⟨rfl, B2x⟩; have B2 := Below.then B1 B2x)
   | (clear t2; refine wpList_allocS rfl 32 rfl zst zeroSt ?_; intro W3 b6 F3 I3; have B3 := F3.trans B2 B2.size; have hb6 : w.heap.size ≤ b6 := Nat.le_trans B2.size (Nat.le_of_eq F3.at'.symm); clear F3)
   | (clear t3; refine wpList_storeW rfl 32 _ _ rfl rfl zst rfl I3 rfl infoSt zst_one ?_; intro W4 U4 I4; have B4 := U4.trans B3 hb6; clear U4))
  go_ret2
  exact ⟨rfl, B4⟩
 | some s =>
  have hfit := (readS_some hrd).1
  have hwid := readS_wid hrd
  have hl := shp_len hv
  rw [hrd] at hSt
  have hSt' := fun W h1 h2 => (hSt W h1 h2).mono fun e w' h => h.2 s rfl
  clear hSt
  have hsp : stepH p T k = (match hopK s k with | none => none | some u => if fitsB (shpOf p) u = true then some u else none) := by unfold stepH; rw [hrd]; rfl
  rw [hsp]
  have hpn : s.pc.length = p.threads.length := by rw [hfit.pc, hl.1]
  have hfs := few_fits hv hfit
  have hplc : ∀ (j : Nat) q, s.pc[j]? = some q → 0 ≤ q ∧ q ≤ 1048576 := hop_pc hv hf hfit
  have hN2 := fun W B v1 v2 v3 v4 v5 vs bs2 (h0 : B ≤ W.heap.size) (h2 : SOwn W B s v1 v2 v3 v4 v5 vs bs2) h3 => sm2_any s s.pc.length rfl hfs.pc hplc k B v1 v2 v3 v4 v5 vs bs2 W h0 h2 h3
  have hFit := fun (u : ST) (hu : u.Few) W v1 v2 v3 v4 v5 h1 h2 (h3 : STV W u v1 v2 v3 v4 v5) => fits_any (shpOf p) u p.threads.length p.locs.length a1 a2 c1 c2 v1 v2 v3 v4 v5 W hl.1 hf.t hf.l hl.2 rfl hu h1 h2 h3
  have hTx := fun (u : ST) (hu : Fits (shpOf p) u) (hw : Wid u) W v1 v2 v3 v4 v5 (h3 : STV W u v1 v2 v3 v4 v5) => textOf_any u p.threads.length (by rw [hu.pc, hl.1]) (few_fits hv hu) hw ⟨by rw [hu.ph, hl.1], by rw [hu.rg, hl.1], by rw [hu.bf, hl.1]⟩ v1 v2 v3 v4 v5 W h3
  have hKeep := fun u (h : hopK s k = some u) => hop_keeps hfs hwid hplc h
  obtain ⟨r, hr⟩ : ∃ r, hopK s k = r := ⟨_, rfl⟩
  simp only [hr] at hN2 hKeep ⊢
  obtain ⟨lk, hlk⟩ : ∃ k, s.lock = k := ⟨_, rfl⟩
  simp only [hlk] at hSt' hN2
  obtain ⟨n, hn⟩ : ∃ n, p.threads.length = n := ⟨_, rfl⟩
  obtain ⟨nl, hnl⟩ : ∃ n, p.locs.length = n := ⟨_, rfl⟩
  have HM : Hid (MH w p bz bp bs be) := hM
  have HZ : Hid (IsS w bz 105 [.slice a1 n c1, .slice a2 n c2, .int .i64 (nl : Int)]) := by rw [← hn, ← hnl]; exact Z0
  have HG : Hid (Seg w a1 ((natI (shpOf p).ins).flatMap intE) ∧ Seg w a2 ((natI (shpOf p).rgs).flatMap intE)) := ⟨SG1, SG2⟩
  simp only [hn, hnl] at hSt'
  simp only [hn, hnl] at hFit
  have tf : True := trivial
  have tz : True := trivial
  have t2 : True := trivial
  have t3 : True := trivial
  have t4 : True := trivial
  have t5 : True := trivial
  have t6 : True := trivial
  have t7 : True := trivial
  have t8 : True := trivial
  have t9 : True := trivial
  have ta : True := trivial
  have tb : True := trivial
  cases r with
  | none =>
   have hN2' := fun W B v1 v2 v3 v4 v5 vs bs2 h0 h2 h3 => (hN2 W B v1 v2 v3 v4 v5 vs bs2 h0 h2 h3).mono fun e w' h => h.1 rfl
   clear hM hv hf hT Z0 SG1 SG2 hn hnl hrd hfit hwid hl hr hlk hsp hKeep hFit hTx hN2 hpn hfs hplc
   go_enter Try.func67, Try.ntmps67
   go_wp2_with (first
    | (clear tf; refine wpList_boxS rfl 68 _ rfl (pkL k) rfl ?_; intro W1 b5 F1 K1; have B1 := F_b F1; clear F1)
    | (clear tz; refine wpList_loadW rfl 105 _ rfl rfl (HZ.out.grown B1) _ Try.underlying105 rfl infoShp ?_)
    | (go_at_call 44; refine (hSt' _ (HG.out.1.below B1) (HG.out.2.below B1)).mono ?_; rintro e W2 ⟨v1, v2, v3, v4, v5, vs, bs2, rfl, S2, hap, B2x⟩; have hone := stv_one lk S2.stv; have K2 := K1.grown B2x)
    | (clear t2; refine wpList_allocS rfl 32 rfl zst zeroSt ?_; intro W3 b8 F3 I3; have S3 := S2.below (F_b F3); have K3 := K2.fresh F3; have B13 := F3.trans B2x B2x.size; have hb8 : W1.heap.size ≤ b8 := Nat.le_trans B2x.size (Nat.le_of_eq F3.at'.symm); clear F3)
    | (clear t3; refine wpList_storeW rfl 32 _ _ rfl rfl [v1, v2, v3, v4, v5, .int .i64 lk] rfl I3 rfl infoSt hone ?_; intro W4 U4 I4; have S4 := S3.updS I3 U4; have K4 := isS_updT K3 I3 (by decide) U4; have B14 := U4.trans B13 hb8; have hs4 := B14.size; have hs4x := B14.size; have M4 := HM.out.below (Below.then B1 B14); clear U4 I3 S3 K3)
    | (clear t4; refine wpList_loadF rfl _ _ rfl rfl M4.fs (fun w h => by simp [go_sem, h]) ?_)
    | (clear t5; refine wpList_loadW rfl 32 _ rfl rfl I4 _ Try.underlying32 rfl infoSt ?_)
    | (clear t6; refine wpList_loadW rfl 68 _ rfl rfl K4 _ Try.underlying68 rfl infoPk3 ?_)
    | (go_at_call 26; refine (hN2' _ W1.heap.size _ _ _ _ _ _ _ hs4 S4 hap).mono ?_; rintro e W5 ⟨rfl, B5x⟩; have B5 := B1.trans (B14.trans B5x |>.mono B1.size))
    | (clear t7; refine wpList_allocS rfl 32 rfl zst zeroSt ?_; intro W6 b10 F6 I6; have B6 := F6.trans B5 B5.size; have hb10 : w.heap.size ≤ b10 := Nat.le_trans B5.size (Nat.le_of_eq F6.at'.symm); clear F6)
    | (clear t8; refine wpList_storeW rfl 32 _ _ rfl rfl [v1, v2, v3, v4, v5, .int .i64 lk] rfl I6 rfl infoSt hone ?_; intro W7 U7 I7; have B7 := U7.trans B6 hb10; clear U7))
   go_ret2
   exact ⟨rfl, B7⟩
  | some u =>
   obtain ⟨hfw, hWu⟩ := hKeep u rfl
   have hN2' := fun W B v1 v2 v3 v4 v5 vs bs2 h0 h2 h3 => (hN2 W B v1 v2 v3 v4 v5 vs bs2 h0 h2 h3).mono fun e w' h => h.2 u rfl
   have hFit' := hFit u hfw
   obtain ⟨ul, hul⟩ : ∃ k, u.lock = k := ⟨_, rfl⟩
   simp only [hul] at hN2' hFit'
   show Calls _ _ _ _ fun e w' => e = .returned (stpV (if fitsB (shpOf p) u = true then some u else none)) ∧ Below w.heap.size w w'
   cases hfb : fitsB (shpOf p) u with
   | true =>
    have hfu := (fitsB_iff _ _).1 hfb
    have hTx' := hTx u hfu (hWu (lk_le hv hfu))
    simp only [hfb] at hFit'
    simp only [hul] at hTx'
    obtain ⟨X, hX⟩ : ∃ X : ByteArray, X = ⟨(textS u).toArray⟩ := ⟨_, rfl⟩
    have HV : Hid (stpV (if true = true then some u else none) = .tuple #[.string X, .bool true]) := by rw [hX, if_pos rfl]; rfl
    simp only [← hX] at hTx'
    obtain ⟨V, hV⟩ : ∃ v, stpV (if true = true then some u else none) = v := ⟨_, rfl⟩
    rw [hV] at HV ⊢
    clear hM hv hf hT Z0 SG1 SG2 hn hnl hrd hfit hwid hl hr hlk hsp hKeep hFit hTx hN2 hpn hfs hplc hfw hWu hfb hX hV hfu hul
    go_enter Try.func67, Try.ntmps67
    go_wp2_with (first
     | (clear tf; refine wpList_boxS rfl 68 _ rfl (pkL k) rfl ?_; intro W1 b5 F1 K1; have B1 := F_b F1; clear F1)
     | (clear tz; refine wpList_loadW rfl 105 _ rfl rfl (HZ.out.grown B1) _ Try.underlying105 rfl infoShp ?_)
     | (go_at_call 44; refine (hSt' _ (HG.out.1.below B1) (HG.out.2.below B1)).mono ?_; rintro e W2 ⟨v1, v2, v3, v4, v5, vs, bs2, rfl, S2, hap, B2x⟩; have hone := stv_one lk S2.stv; have K2 := K1.grown B2x)
     | (clear t2; refine wpList_allocS rfl 32 rfl zst zeroSt ?_; intro W3 b8 F3 I3; have S3 := S2.below (F_b F3); have K3 := K2.fresh F3; have B13 := F3.trans B2x B2x.size; have hb8 : W1.heap.size ≤ b8 := Nat.le_trans B2x.size (Nat.le_of_eq F3.at'.symm); clear F3)
     | (clear t3; refine wpList_storeW rfl 32 _ _ rfl rfl [v1, v2, v3, v4, v5, .int .i64 lk] rfl I3 rfl infoSt hone ?_; intro W4 U4 I4; have S4 := S3.updS I3 U4; have K4 := isS_updT K3 I3 (by decide) U4; have B14 := U4.trans B13 hb8; have hs4 := B14.size; have hs4x := B14.size; have M4 := HM.out.below (Below.then B1 B14); clear U4 I3 S3 K3)
     | (clear t4; refine wpList_loadF rfl _ _ rfl rfl M4.fs (fun w h => by simp [go_sem, h]) ?_)
     | (clear t5; refine wpList_loadW rfl 32 _ rfl rfl I4 _ Try.underlying32 rfl infoSt ?_)
     | (clear t6; refine wpList_loadW rfl 68 _ rfl rfl K4 _ Try.underlying68 rfl infoPk3 ?_)
     | (go_at_call 26; refine (hN2' _ W1.heap.size _ _ _ _ _ _ _ hs4 S4 hap).mono ?_; rintro e W5 ⟨rfl, S5, B5x⟩; have B15 := B14.trans B5x; have B5 := B1.trans (B15.mono B1.size); have hone5 := stv_one ul S5.stv)
     | (clear t7; refine wpList_allocS rfl 32 rfl zst zeroSt ?_; intro W6 b10 F6 I6; have S6 := S5.below (F_b F6); have B16 := F6.trans B15 (Nat.le_trans hs4x B5x.size); have hb10 : W1.heap.size ≤ b10 := (by have := F6.at'; have := B15.size; omega); clear F6)
     | (clear t8; refine wpList_storeW rfl 32 _ _ rfl rfl [v1, v2, v3, v4, v5, .int .i64 ul] rfl I6 rfl infoSt hone5 ?_; intro W7 U7 I7; have S7 := S6.updS I6 U7; have B17 := U7.trans B16 hb10; have B07 : Below w.heap.size w W7 := B1.trans (B17.mono B1.size); clear U7 I6 S6)
     | (clear t9; refine wpList_loadGW rfl 105 _ rfl rfl (HZ.out.grown B07) _ Try.underlying105 rfl infoShp ?_)
     | (clear ta; refine wpList_loadGW rfl 32 _ rfl rfl I7 _ Try.underlying32 rfl infoSt ?_)
     | (go_at_call 42; refine (hFit' _ _ _ _ _ _ (HG.out.1.below B07) (HG.out.2.below B07) S7.stv).mono ?_; rintro e W8 ⟨rfl, B8x⟩; have S8 := S7.below B8x; have I8 := I7.grown B8x; have B8 := Below.then B07 B8x)
     | (clear tb; refine wpList_loadW rfl 32 _ rfl rfl I8 _ Try.underlying32 rfl infoSt ?_)
     | (go_at_call 43; refine (hTx' _ _ _ _ _ _ S8.stv).mono ?_; rintro e W9 ⟨rfl, B9x⟩; have B9 := Below.then B8 B9x))
    go_ret2
    exact ⟨congrArg Ending.returned HV.out.symm, B9⟩
   | false =>
    simp only [hfb] at hFit'
    have HV : Hid (stpV (if false = true then some u else none) = .tuple #[.string ⟨#[]⟩, .bool false]) := by rw [if_neg (by decide)]; rfl
    obtain ⟨V, hV⟩ : ∃ v, stpV (if false = true then some u else none) = v := ⟨_, rfl⟩
    rw [hV] at HV ⊢
    clear hM hv hf hT Z0 SG1 SG2 hn hnl hrd hfit hwid hl hr hlk hsp hKeep hFit hTx hN2 hpn hfs hplc hfw hWu hfb hV hul
    go_enter Try.func67, Try.ntmps67
    go_wp2_with (first
     | (clear tf; refine wpList_boxS rfl 68 _ rfl (pkL k) rfl ?_; intro W1 b5 F1 K1; have B1 := F_b F1; clear F1)
     | (clear tz; refine wpList_loadW rfl 105 _ rfl rfl (HZ.out.grown B1) _ Try.underlying105 rfl infoShp ?_)
     | (go_at_call 44; refine (hSt' _ (HG.out.1.below B1) (HG.out.2.below B1)).mono ?_; rintro e W2 ⟨v1, v2, v3, v4, v5, vs, bs2, rfl, S2, hap, B2x⟩; have hone := stv_one lk S2.stv; have K2 := K1.grown B2x)
     | (clear t2; refine wpList_allocS rfl 32 rfl zst zeroSt ?_; intro W3 b8 F3 I3; have S3 := S2.below (F_b F3); have K3 := K2.fresh F3; have B13 := F3.trans B2x B2x.size; have hb8 : W1.heap.size ≤ b8 := Nat.le_trans B2x.size (Nat.le_of_eq F3.at'.symm); clear F3)
     | (clear t3; refine wpList_storeW rfl 32 _ _ rfl rfl [v1, v2, v3, v4, v5, .int .i64 lk] rfl I3 rfl infoSt hone ?_; intro W4 U4 I4; have S4 := S3.updS I3 U4; have K4 := isS_updT K3 I3 (by decide) U4; have B14 := U4.trans B13 hb8; have hs4 := B14.size; have hs4x := B14.size; have M4 := HM.out.below (Below.then B1 B14); clear U4 I3 S3 K3)
     | (clear t4; refine wpList_loadF rfl _ _ rfl rfl M4.fs (fun w h => by simp [go_sem, h]) ?_)
     | (clear t5; refine wpList_loadW rfl 32 _ rfl rfl I4 _ Try.underlying32 rfl infoSt ?_)
     | (clear t6; refine wpList_loadW rfl 68 _ rfl rfl K4 _ Try.underlying68 rfl infoPk3 ?_)
     | (go_at_call 26; refine (hN2' _ W1.heap.size _ _ _ _ _ _ _ hs4 S4 hap).mono ?_; rintro e W5 ⟨rfl, S5, B5x⟩; have B15 := B14.trans B5x; have B5 := B1.trans (B15.mono B1.size); have hone5 := stv_one ul S5.stv)
     | (clear t7; refine wpList_allocS rfl 32 rfl zst zeroSt ?_; intro W6 b10 F6 I6; have S6 := S5.below (F_b F6); have B16 := F6.trans B15 (Nat.le_trans hs4x B5x.size); have hb10 : W1.heap.size ≤ b10 := (by have := F6.at'; have := B15.size; omega); clear F6)
     | (clear t8; refine wpList_storeW rfl 32 _ _ rfl rfl [v1, v2, v3, v4, v5, .int .i64 ul] rfl I6 rfl infoSt hone5 ?_; intro W7 U7 I7; have S7 := S6.updS I6 U7; have B17 := U7.trans B16 hb10; have B07 : Below w.heap.size w W7 := B1.trans (B17.mono B1.size); clear U7 I6 S6)
     | (clear t9; refine wpList_loadGW rfl 105 _ rfl rfl (HZ.out.grown B07) _ Try.underlying105 rfl infoShp ?_)
     | (clear ta; refine wpList_loadGW rfl 32 _ rfl rfl I7 _ Try.underlying32 rfl infoSt ?_)
     | (go_at_call 42; refine (hFit' _ _ _ _ _ _ (HG.out.1.below B07) (HG.out.2.below B07) S7.stv).mono ?_; rintro e W8 ⟨rfl, B8x⟩; have S8 := S7.below B8x; have I8 := I7.grown B8x; have B8 := Below.then B07 B8x))
    go_ret2
    exact ⟨congrArg Ending.returned HV.out.symm, B8⟩
end Go.Proofs.Ytegpnicajlndlaa

/- SM3, SM4 -/
import Derived.Test.YtegpnicajlndlaaQbs
import Derived.Test.YtegpnicajlndlaaQbm
namespace Go.Proofs.Ytegpnicajlndlaa
open Go.RowKit M
set_option linter.unusedSimpArgs false
set_option linter.unusedVariables false
def hopK (s : ST) (k : Int × Int × Int) : Option ST := if 0 ≤ k.1 ∧ k.1 < (s.pc.length : Int) then some ⟨s.pc.set k.1.toNat (s.pc.getD k.1.toNat 0 + 2), s.ph, s.regs, s.mem, s.buf, k.2.2⟩ else none
def HpB (w : World) (B : Nat) (v1 v2 v3 v4 v5 : Value) (lk : Int) (vs bs : List Value) (r : Option ST) (e : Ending) (w' : World) : Prop :=
 (r = none → e = .returned (.tuple #[.agg #[v1, v2, v3, v4, v5, .int .i64 lk], .bool false]) ∧ Below B w w') ∧ (∀ s', r = some s' → e = .returned (.tuple #[.agg #[v1, v2, v3, v4, v5, .int .i64 s'.lock], .bool true]) ∧ SOwn w' B s' v1 v2 v3 v4 v5 vs bs ∧ Below B w w')
theorem SOwn.hop {W W' : World} {B g n c : Nat} {cs : List Value} {s : ST} {v2 v3 v4 v5 : Value} {vs bs : List Value} {pc' : List Int} {lk : Int} (h : SOwn W B s (.slice (some ⟨g, 0, none⟩) n c) v2 v3 v4 v5 vs bs) (hap : ∀ k, v2.ownBlock = some k → (Value.slice (some ⟨g, 0, none⟩) n c).ownBlock ≠ some k) (I : IsS W g 3 cs) (U : Upd W W' g) (hl : pc'.length = s.pc.length)
    (hpc : W'.ownsRow B 3 1 (.slice (some ⟨g, 0, none⟩) n c) s.pc.length (pc'.flatMap intE)) : SOwn W' B ⟨pc', s.ph, s.regs, s.mem, s.buf, lk⟩ (.slice (some ⟨g, 0, none⟩) n c) v2 v3 v4 v5 vs bs :=
 ⟨by show W'.ownsRow B 3 1 _ pc'.length _; rw [hl]; exact hpc, own_same h.ph fun k hk => U.block k (fun e => by subst e; exact hap k hk rfl), ⟨h.rg.len, own_upd h.rg.out I U (by decide), fun j u xs hu hx => own_upd (h.rg.row j u xs hu hx) I U (by decide), h.rg.apart⟩, own_upd h.mm I U (by decide), h.am, own_upd h.bf I U (by decide), h.bl, fun j u l hu hl => own_upd (h.be j u l hu hl) I U (by decide), h.ba⟩
set_option maxRecDepth 100000 in
set_option maxHeartbeats 4000000 in
theorem sm2_any (s : ST) (n : Nat) (hn : s.pc.length = n) (hn20 : n ≤ 1048576) (hpl : ∀ (j : Nat) q, s.pc[j]? = some q → 0 ≤ q ∧ q ≤ 1048576) (k : Int × Int × Int) (B : Nat) (v1 v2 v3 v4 v5 : Value) (vs bs : List Value) (w : World) (hB : B ≤ w.heap.size) (hS : SOwn w B s v1 v2 v3 v4 v5 vs bs) (hap : ∀ k, v2.ownBlock = some k → v1.ownBlock ≠ some k) :
    Calls Try.prog 26 #[.agg #[v1, v2, v3, v4, v5, .int .i64 s.lock], .agg (pkL k).toArray] w fun e w' => HpB w B v1 v2 v3 v4 v5 s.lock vs bs (hopK s k) e w' := by
 obtain ⟨th, kd, lc⟩ := k
 have hone0 := stv_one s.lock hS.stv
 obtain ⟨a1, c1, rfl, S1, _⟩ := id hS.stv.pc
 simp only [hn] at hone0 hap
 have hS0 := hS
 rw [hn] at hS0 ⊢
 have hnI : (n : Int) ≤ 1048576 := by omega
 have HQ : Hid ((¬ (0 ≤ th ∧ th < (n : Int)) → ∀ e w', (e = .returned (.tuple #[.agg #[.slice a1 n c1, v2, v3, v4, v5, .int .i64 s.lock], .bool false]) ∧ Below B w w') → HpB w B (.slice a1 n c1) v2 v3 v4 v5 s.lock vs bs (hopK s (th, kd, lc)) e w') ∧ (∀ (j : Nat) q, th = (j : Int) → s.pc[j]? = some q → ∀ e w', (e = .returned (.tuple #[.agg #[.slice a1 n c1, v2, v3, v4, v5, .int .i64 lc], .bool true]) ∧ SOwn w' B ⟨s.pc.set j (q + 2), s.ph, s.regs, s.mem, s.buf, lc⟩ (.slice a1 n c1) v2 v3 v4 v5 vs bs ∧ Below B w w') → HpB w B (.slice a1 n c1) v2 v3 v4 v5 s.lock vs bs (hopK s (th, kd, lc)) e w')) := by
  refine ⟨fun h e w' he => ?_, fun j q hj hq e w' he => ?_⟩
  · have : hopK s (th, kd, lc) = none := by unfold hopK; rw [hn]; exact if_neg h
    rw [this]
    exact ⟨fun _ => he, fun s' h' => by cases h'⟩
  · have hlt : j < s.pc.length := (List.getElem?_eq_some_iff.1 hq).1
    have : hopK s (th, kd, lc) = some ⟨s.pc.set j (q + 2), s.ph, s.regs, s.mem, s.buf, lc⟩ := by
     unfold hopK
     subst hj
     rw [if_pos ⟨by omega, by show (j : Int) < _; omega⟩]
     simp only [Int.toNat_natCast, List.getD_eq_getElem?_getD, hq, Option.getD_some]
    rw [this]
    exact ⟨fun h' => (by cases h'), fun s' h' => (by cases h'; exact he)⟩
 generalize HpB w B (.slice a1 n c1) v2 v3 v4 v5 s.lock vs bs (hopK s (th, kd, lc)) = QQ at *
 obtain ⟨lk, hlk⟩ : ∃ k, s.lock = k := ⟨_, rfl⟩
 simp only [hlk] at hone0 HQ ⊢
 have t1 : True := trivial
 have t2 : True := trivial
 have t3 : True := trivial
 have t4 : True := trivial
 have t5 : True := trivial
 have t6 : True := trivial
 by_cases hr : 0 ≤ th ∧ th < (n : Int)
 · obtain ⟨j, hj, hjn⟩ := nat_of hr
   subst hj
   obtain ⟨q, hq⟩ : ∃ q, s.pc[j]? = some q := ⟨_, List.getElem?_eq_getElem (by omega)⟩
   obtain ⟨hq0, hq1⟩ := hpl j q hq
   have hP := hS0.pc
   rw [hn] at hP
   obtain ⟨g, c, cs, e, hg, I, hcs, hc, hm, hl⟩ := own_opn hP (by omega)
   cases e
   have hne : ¬ (j : Int) < 0 := by omega
   have hjI : (j : Int) < (n : Int) := by omega
   have hge : ¬ (n : Int) ≤ (j : Int) := by omega
   have hjc : j < cs.length := by omega
   have hgl := I.lt
   have hx : cs[j]? = some (.int .i64 q) := by
    have h1 : (cs.take n)[j]? = some (.int .i64 q) := by rw [hcs]; exact int_at hq
    rw [List.getElem?_take_of_lt hjn] at h1
    exact h1
   have HF := HQ.out.2 j q rfl hq
   have hone1 : ∀ v ∈ [Value.slice (some ⟨g, 0, none⟩) n c1, v2, v3, v4, v5, .int .i64 lc], v.oneCell' = true := fun v hv => by
    simp only [List.mem_cons, List.not_mem_nil, or_false] at hv
    rcases hv with h | h | h | h | h | h
    all_goals first | (rw [h]; rfl) | exact hone0 v (by rw [h]; simp)
   have HS : Hid (SOwn w B s (.slice (some ⟨g, 0, none⟩) n c1) v2 v3 v4 v5 vs bs) := hS0
   have HAP : Hid (∀ k, v2.ownBlock = some k → (Value.slice (some ⟨g, 0, none⟩) n c1).ownBlock ≠ some k) := hap
   have HPC : Hid (s.pc.length = n) := hn
   have HCS : Hid (cs.take n = s.pc.flatMap intE) := hcs
   clear HQ hS hS0 hap hcs hP S1 hpl hq hr hn
   go_enter Try.func26, Try.ntmps26
   go_wp2_with (first
    | (clear t1; refine wpList_boxS rfl 32 _ rfl [.slice (some ⟨g, 0, none⟩) n c1, v2, v3, v4, v5, .int .i64 lk] rfl ?_; intro W1 b2 F1 C1; have B1 := F_b F1; have I1 := I.fresh F1; have hb2 : w.heap.size = b2 := F1.at'.symm; have S1 := HS.out.below B1; clear F1)
    | (clear t2; refine wpList_boxS rfl 68 _ rfl (pkL ((j : Int), kd, lc)) rfl ?_; intro W2 b3 F2 K2; have C2 := C1.fresh F2; have I2 := I1.fresh F2; have S2 := S1.below (F_b F2); have B2 := F2.trans B1 B1.size; clear F2 C1 I1 S1)
    | (clear t3; refine wpList_allocS rfl 32 rfl zst zeroSt ?_; intro W4 b4 F4 R4; have C4 := C2.fresh F4; have K4 := K2.fresh F4; have I4 := I2.fresh F4; have S4 := S2.below (F_b F4); have B4 := F4.trans B2 B2.size; have hb4 : w.heap.size ≤ b4 := Nat.le_trans B2.size (Nat.le_of_eq F4.at'.symm); have n24 : b2 ≠ b4 := (by have := C2.lt; have := F4.at'; omega); have yx : W4.cell? ⟨g, j, none⟩ = some (.int .i64 q) := (I4.cell j).trans hx; obtain ⟨x0, x1, x2, x3, x4, x5⟩ := st6 C4; have k0 : W4.cell? ⟨b3, 0, none⟩ = some (.int .i64 (j : Int)) := K4.cell 0; clear F4 C2 K2 I2 S2 B2)
    | (clear t4; refine wpList_store1 rfl 3 _ _ rfl rfl (.int .i64 (q + 2)) rfl I4 hjc info3' rfl ?_; intro W5 U5 I5; have C5 := isS_updT C4 I4 (by decide) U5; have K5 := isS_updT K4 I4 (by decide) U5; have R5 := isS_updT R4 I4 (by decide) U5; have B5 := U5.trans (B4.mono hB) hg; have hs5 := U5.size; clear x0 x1 x2 x3 x4 x5 k0 yx; have k2 : W5.cell? ⟨b3, 2, none⟩ = some (.int .i64 lc) := K5.cell 2)
    | (clear t5; refine wpList_store1 rfl 3 _ _ rfl rfl (.int .i64 lc) rfl C5 (by show 5 < 6; omega) info3' rfl ?_; intro W6 U6 C6; have R6 := R5.upd U6 (Ne.symm n24); have B6 := U6.trans B5 (by omega); clear k2)
    | (clear t6; refine wpList_loadW rfl 32 _ rfl rfl C6 _ Try.underlying32 rfl infoSt ?_)
    | (refine wpList_storeW rfl 32 _ _ rfl rfl [.slice (some ⟨g, 0, none⟩) n c1, v2, v3, v4, v5, .int .i64 lc] rfl R6 rfl infoSt hone1 ?_; intro W8 U8 R8; have B8 := U8.trans B6 (Nat.le_trans hB hb4)))
   have S5 : SOwn W5 B ⟨s.pc.set j (q + 2), s.ph, s.regs, s.mem, s.buf, lc⟩ (.slice (some ⟨g, 0, none⟩) n c1) v2 v3 v4 v5 vs bs := S4.hop HAP.out I4 U5 List.length_set (by rw [HPC.out]; exact put_own hg (by rw [Nat.zero_add]; exact I5) HCS.out hc hm hl)
   exact ret_ST rfl rfl rfl R8 _ Try.underlying32 rfl infoSt _ rfl (HF _ _ ⟨rfl, (S5.updS C5 U6).updS R6 U8, B8⟩)
 · have HF := HQ.out.1 hr
   clear HQ hS hS0 hap S1 hpl hn
   by_cases hne : th < 0
   · clear hr
     go_enter Try.func26, Try.ntmps26
     go_wp2_with (first
      | (clear t1; refine wpList_boxS rfl 32 _ rfl [.slice a1 n c1, v2, v3, v4, v5, .int .i64 lk] rfl ?_; intro W1 b2 F1 C1; have B1 := F_b F1; clear F1)
      | (clear t2; refine wpList_boxS rfl 68 _ rfl (pkL (th, kd, lc)) rfl ?_; intro W2 b3 F2 K2; have C2 := C1.fresh F2; have B2 := F2.trans B1 B1.size; clear F2 C1)
      | (clear t3; refine wpList_allocS rfl 32 rfl zst zeroSt ?_; intro W4 b4 F4 R4; have C4 := C2.fresh F4; have K4 := K2.fresh F4; have B4 := F4.trans B2 B2.size; have hb4 : w.heap.size ≤ b4 := Nat.le_trans B2.size (Nat.le_of_eq F4.at'.symm); obtain ⟨x0, x1, x2, x3, x4, x5⟩ := st6 C4; have k0 : W4.cell? ⟨b3, 0, none⟩ = some (.int .i64 th) := K4.cell 0; clear F4 C2 K2 B2)
      | (clear t6; refine wpList_loadW rfl 32 _ rfl rfl C4 _ Try.underlying32 rfl infoSt ?_)
      | (refine wpList_storeW rfl 32 _ _ rfl rfl [.slice a1 n c1, v2, v3, v4, v5, .int .i64 lk] rfl R4 rfl infoSt hone0 ?_; intro W8 U8 R8; have B8 := U8.trans (B4.mono hB) (Nat.le_trans hB hb4)))
     exact ret_ST rfl rfl rfl R8 _ Try.underlying32 rfl infoSt _ rfl (HF _ _ ⟨rfl, B8⟩)
   · have hge : (n : Int) ≤ th := by omega
     clear hr
     go_enter Try.func26, Try.ntmps26
     go_wp2_with (first
      | (clear t1; refine wpList_boxS rfl 32 _ rfl [.slice a1 n c1, v2, v3, v4, v5, .int .i64 lk] rfl ?_; intro W1 b2 F1 C1; have B1 := F_b F1; clear F1)
      | (clear t2; refine wpList_boxS rfl 68 _ rfl (pkL (th, kd, lc)) rfl ?_; intro W2 b3 F2 K2; have C2 := C1.fresh F2; have B2 := F2.trans B1 B1.size; clear F2 C1)
      | (clear t3; refine wpList_allocS rfl 32 rfl zst zeroSt ?_; intro W4 b4 F4 R4; have C4 := C2.fresh F4; have K4 := K2.fresh F4; have B4 := F4.trans B2 B2.size; have hb4 : w.heap.size ≤ b4 := Nat.le_trans B2.size (Nat.le_of_eq F4.at'.symm); obtain ⟨x0, x1, x2, x3, x4, x5⟩ := st6 C4; have k0 : W4.cell? ⟨b3, 0, none⟩ = some (.int .i64 th) := K4.cell 0; clear F4 C2 K2 B2)
      | (clear t6; refine wpList_loadW rfl 32 _ rfl rfl C4 _ Try.underlying32 rfl infoSt ?_)
      | (refine wpList_storeW rfl 32 _ _ rfl rfl [.slice a1 n c1, v2, v3, v4, v5, .int .i64 lk] rfl R4 rfl infoSt hone0 ?_; intro W8 U8 R8; have B8 := U8.trans (B4.mono hB) (Nat.le_trans hB hb4)))
     exact ret_ST rfl rfl rfl R8 _ Try.underlying32 rfl infoSt _ rfl (HF _ _ ⟨rfl, B8⟩)
structure MH (W : World) (p : PG) (bz bp bs be : Nat) : Prop where
 z : MZ W p bz
 fp : IsS W bp 73 [.func (.func 25) #[] #[]]
 fs : IsS W bs 74 [.func (.func 26) #[] #[]]
 fe : IsS W be 75 [.func (.func 27) #[] #[]]
theorem MH.below {W W' : World} {p : PG} {bz bp bs be : Nat} (h : MH W p bz bp bs be) (hB : Below W.heap.size W W') : MH W' p bz bp bs be := ⟨h.z.below hB, h.fp.grown hB, h.fs.grown hB, h.fe.grown hB⟩
noncomputable def picksH (p : PG) (T : ByteArray) : List (Int × Int × Int) := match readS T (shpOf p) with | none => [] | some s => [((s.pc.length : Int), 2, s.pc.getD 0 0)]
noncomputable def stepH (p : PG) (T : ByteArray) (k : Int × Int × Int) : Option ST := match readS T (shpOf p) with | none => none | some s => match hopK s k with | none => none | some u => if fitsB (shpOf p) u = true then some u else none
noncomputable def endH (p : PG) (T : ByteArray) : Option ST := match readS T (shpOf p) with | none => none | some s => if decide (1 < s.pc.getD 0 0) = true then some s else none
theorem pkL_oneK (k : Int × Int × Int) : ∀ v ∈ pkL k, v.oneCell' = true := by
 intro v hv
 simp only [pkL, List.mem_cons, List.not_mem_nil, or_false] at hv
 rcases hv with rfl | rfl | rfl <;> rfl
set_option maxRecDepth 100000 in
set_option maxHeartbeats 4000000 in
theorem hach1_any (p : PG) (hv : Vld p) (hf : p.Few) (T : ByteArray) (hT : T.size ≤ 1099511627776) (bz bp bs be : Nat) (w : World) (hM : MH w p bz bp bs be) :
    Calls Try.prog 65 #[.string T, .pointer (some ⟨bz, 0, none⟩), .pointer (some ⟨bp, 0, none⟩)] w fun e w' => ∃ v, e = .returned v ∧ w'.ownsRow w.heap.size 68 3 v (picksH p T).length ((picksH p T).flatMap pkL) ∧ Below w.heap.size w w' := by
 obtain ⟨a1, c1, a2, c2, Z0, SG1, SG2⟩ := hM.z.ex
 have hSt := fun W h1 h2 => stateOf2_any p hv hf T hT a1 a2 c1 c2 W h1 h2
 cases hrd : readS T (shpOf p) with
 | none =>
  have hpk : picksH p T = [] := by unfold picksH; rw [hrd]
  rw [hpk]
  rw [hrd] at hSt
  have hSt' := fun W h1 h2 => (hSt W h1 h2).mono fun e w' h => h.1 rfl
  clear hSt
  obtain ⟨n, hn⟩ : ∃ n, p.threads.length = n := ⟨_, rfl⟩
  obtain ⟨nl, hnl⟩ : ∃ n, p.locs.length = n := ⟨_, rfl⟩
  have HM : Hid (MH w p bz bp bs be) := hM
  have HZ : Hid (IsS w bz 105 [.slice a1 n c1, .slice a2 n c2, .int .i64 (nl : Int)]) := by rw [← hn, ← hnl]; exact Z0
  have HG : Hid (Seg w a1 ((natI (shpOf p).ins).flatMap intE) ∧ Seg w a2 ((natI (shpOf p).rgs).flatMap intE)) := ⟨SG1, SG2⟩
  simp only [hn, hnl] at hSt'
  clear hM hv hf hT Z0 SG1 SG2 hn hnl hrd hpk
  have BZ := Below.refl w.heap.size w
  have tz : True := trivial
  have t2 : True := trivial
  have hz1 : ∀ v ∈ zst, v.oneCell' = true := zst_one
  go_enter Try.func65, Try.ntmps65
  go_wp2_with (first
   | (clear tz; refine wpList_loadW rfl 105 _ rfl rfl (HZ.out.grown BZ) _ Try.underlying105 rfl infoShp ?_)
   | (go_at_call 44; refine (hSt' _ HG.out.1 HG.out.2).mono ?_; rintro e W2 ⟨rfl, B2⟩)
   | (clear t2; refine wpList_allocS rfl 32 rfl zst zeroSt ?_; intro W3 b5 F3 I3; have B3 := F3.trans B2 B2.size; have hb5 : w.heap.size ≤ b5 := Nat.le_trans B2.size (Nat.le_of_eq F3.at'.symm); clear F3)
   | (refine wpList_storeW rfl 32 _ _ rfl rfl zst rfl I3 rfl infoSt hz1 ?_; intro W4 U4 I4; have B4 := U4.trans B3 hb5))
  go_ret
  exact ⟨_, rfl, own_nil _ _ _ _, B4⟩
 | some s =>
  have hfit := (readS_some hrd).1
  have hpk : picksH p T = [((s.pc.length : Int), 2, s.pc.getD 0 0)] := by unfold picksH; rw [hrd]
  rw [hpk]
  rw [hrd] at hSt
  have hSt' := fun W h1 h2 => (hSt W h1 h2).mono fun e w' h => h.2 s rfl
  clear hSt
  have e1 : (shpOf p).ins.length = p.threads.length := (shp_len hv).1
  have hpn : s.pc.length = p.threads.length := by rw [hfit.pc, e1]
  have hq : s.pc[0]? = some (s.pc.getD 0 0) := by
   have h0 : 0 < s.pc.length := by rw [hpn]; exact hv.n0
   rw [List.getD_eq_getElem?_getD, List.getElem?_eq_getElem h0]; rfl
  have hN1 := fun W B v1 v2 v3 v4 v5 vs bs2 (h0 : B ≤ W.heap.size) (h2 : SOwn W B s v1 v2 v3 v4 v5 vs bs2) => sm1_any s s.pc.length rfl (by rw [hpn]; exact hv.n0) (few_fits hv hfit) _ hq B v1 v2 v3 v4 v5 vs bs2 W h0 h2
  obtain ⟨K, hK⟩ : ∃ k : Int × Int × Int, ((s.pc.length : Int), (2 : Int), s.pc.getD 0 0) = k := ⟨_, rfl⟩
  simp only [hK] at hN1 ⊢
  have hCl := fun W a c h1 h2 => clonePk_any (pkL K) 1 c a rfl (pkL_oneK K) (by omega) W h1 h2
  show Calls _ _ _ _ fun e w' => ∃ v, e = .returned v ∧ w'.ownsRow w.heap.size 68 3 v 1 (pkL K ++ []) ∧ Below w.heap.size w w'
  rw [List.append_nil]
  obtain ⟨lk, hlk⟩ : ∃ k, s.lock = k := ⟨_, rfl⟩
  simp only [hlk] at hSt' hN1
  obtain ⟨n, hn⟩ : ∃ n, p.threads.length = n := ⟨_, rfl⟩
  obtain ⟨nl, hnl⟩ : ∃ n, p.locs.length = n := ⟨_, rfl⟩
  have HM : Hid (MH w p bz bp bs be) := hM
  have HZ : Hid (IsS w bz 105 [.slice a1 n c1, .slice a2 n c2, .int .i64 (nl : Int)]) := by rw [← hn, ← hnl]; exact Z0
  have HG : Hid (Seg w a1 ((natI (shpOf p).ins).flatMap intE) ∧ Seg w a2 ((natI (shpOf p).rgs).flatMap intE)) := ⟨SG1, SG2⟩
  simp only [hn, hnl] at hSt'
  clear hM hv hf hT Z0 SG1 SG2 hn hnl hrd hpk hfit e1 hpn hq hK hlk
  have BZ := Below.refl w.heap.size w
  have tz : True := trivial
  have t2 : True := trivial
  have t3 : True := trivial
  have t4 : True := trivial
  have t5 : True := trivial
  go_enter Try.func65, Try.ntmps65
  go_wp2_with (first
   | (clear tz; refine wpList_loadW rfl 105 _ rfl rfl (HZ.out.grown BZ) _ Try.underlying105 rfl infoShp ?_)
   | (go_at_call 44; refine (hSt' _ HG.out.1 HG.out.2).mono ?_; rintro e W2 ⟨v1, v2, v3, v4, v5, vs, bs2, rfl, S2, _, B2⟩; have hone := stv_one lk S2.stv)
   | (clear t2; refine wpList_allocS rfl 32 rfl zst zeroSt ?_; intro W3 b5 F3 I3; have S3 := S2.below (F_b F3); have B3 := F3.trans B2 B2.size; have hb5 : w.heap.size ≤ b5 := Nat.le_trans B2.size (Nat.le_of_eq F3.at'.symm); clear F3)
   | (clear t3; refine wpList_storeW rfl 32 _ _ rfl rfl [v1, v2, v3, v4, v5, .int .i64 lk] rfl I3 rfl infoSt hone ?_; intro W4 U4 I4; have S4 := S3.updS I3 U4; have B4 := U4.trans B3 hb5; have M4 := HM.out.below B4; clear U4 I3 S3)
   | (clear t4; refine wpList_loadF rfl _ _ rfl rfl M4.fp (fun w h => by simp [go_sem, h]) ?_)
   | (clear t5; refine wpList_loadW rfl 32 _ rfl rfl I4 _ Try.underlying32 rfl infoSt ?_)
   | (go_at_call 25; refine (hN1 _ w.heap.size _ _ _ _ _ _ _ B4.size S4).mono ?_; rintro e W5 ⟨v, rfl, O5, B5⟩; obtain ⟨av, cv, ev, sv, nv⟩ := own_row O5; subst ev)
   | (go_at_call 66; refine (hCl _ av cv sv nv).mono ?_; rintro e W6 ⟨u, rfl, O6, B6⟩))
  go_ret
  have B05 := B4.trans B5
  exact ⟨_, rfl, own_raise O6 B05.size, Below.then B05 B6⟩
end Go.Proofs.Ytegpnicajlndlaa

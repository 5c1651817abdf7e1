/- StateProjected: the law. -/
import Derived.Test.YtbhgchhoeokjhabDoorYA
namespace Go.Proofs.YtbhgchhoeokjhabDoor
open Go Go.RowKit M
set_option linter.unusedSimpArgs false
set_option linter.unusedVariables false

set_option maxRecDepth 100000 in
set_option maxHeartbeats 4000000 in
theorem projected_in (a a2 a3 : Option Addr) (cap c2 c3 n : Nat) (l : List FS) (f1 f2 : List Int) (hl : l.length ≤ 300) (hn : n ≤ 48) (h1 : f1.length ≤ 4611686018427387903) (h2 : f2.length ≤ 4611686018427387903) (w : World) (hS : Seg w a (flatF l)) (hK1 : NumS w a2 f1) (hK2 : NumS w a3 f2) (hT : Tab10 w) :
    Calls Tryd.prog 5 #[.slice a l.length cap, .int .i64 (n : Int), .slice a2 f1.length c2, .slice a3 f2.length c3] w fun e w' => e = .returned (.bool true) ∧ Below w.heap.size w w' := by
  have kw := works_any w hT
  obtain ⟨nl, hll⟩ : ∃ nl, l.length = nl := ⟨_, rfl⟩
  obtain ⟨m1, hm1⟩ : ∃ m1, f1.length = m1 := ⟨_, rfl⟩
  obtain ⟨m2, hm2⟩ : ∃ m2, f2.length = m2 := ⟨_, rfl⟩
  rw [hll, hm1, hm2]
  have HLL : Hid (l.length = nl) := hll
  have HM1 : Hid (f1.length = m1) := hm1
  have HM2 : Hid (f2.length = m2) := hm2
  rw [hll] at hl
  rw [hm1] at h1
  rw [hm2] at h2
  have HS : Hid (Seg w a (flatF l)) := hS
  have HK1 : Hid (NumS w a2 f1) := hK1
  have HK2 : Hid (NumS w a3 f2) := hK2
  have hlI : ¬ ((300 : Int) < (nl : Int)) := by omega
  have hn0 : ¬ ((n : Int) < 0) := by omega
  have hn48 : ¬ ((48 : Int) < (n : Int)) := by omega
  clear hll hm1 hm2 hS hK1 hK2 hT
  go_enter Tryd.func5, Tryd.ntmps5
  go_wp2_with (first
    | (go_at_call 6; refine kw.mono ?_; rintro e w1 ⟨rfl, B1⟩))
  clear kw
  have HS1 : Hid (Seg w1 a (flatF l)) := HS.out.below B1
  go_loopw [9, 10] (fun v i wr => ∃ k : Nat, k ≤ nl ∧ i = .int .i64 (k : Int) ∧ Hid (OwnL wr w1.heap.size v (haveN (n : Int) (l.take k))) ∧ Below w1.heap.size w1 wr) (fun _ i _ => nl - (intOf i).toNat)
  case atStart => exact ⟨0, Nat.zero_le _, rfl, World.ownsRow_nil _ _ _ _, Below.refl _ _⟩
  case round =>
    obtain ⟨k, hk, rfl, HO, BR⟩ := hrel
    have hsR := BR.size
    by_cases hlt : k < nl
    · obtain ⟨b, o, rfl, HB, HX⟩ := seg_elem (HS1.out.below BR) k (by rw [HLL.out]; exact hlt)
      have HT : Hid (haveN (n : Int) (l.take (k + 1)) = if (l.getD k FS.zero).n = (n : Int) then haveN (n : Int) (l.take k) ++ [l.getD k FS.zero] else haveN (n : Int) (l.take k)) := haveN_take _ (by rw [HLL.out]; exact hlt)
      have hfl : (haveN (n : Int) (l.take k)).length ≤ 300 := Nat.le_trans (haveN_len _ _) (by rw [List.length_take]; omega)
      have hiX : (k : Int) < (nl : Int) := by omega
      have c0 : wr.cell? ⟨b, o + k * 49, none⟩ = some (.int .i64 (l.getD k FS.zero).n) := by
        have := HX 0 (.int .i64 (l.getD k FS.zero).n) rfl
        simpa using this
      generalize l.getD k FS.zero = X at *
      obtain ⟨av, cv, hv⟩ := own_form HO.out
      subst hv
      generalize haveN (n : Int) (l.take k) = out at *
      by_cases hX : X.n = (n : Int)
      · have HF := HT.out
        rw [if_pos hX] at HF
        have HFh : Hid (haveN (n : Int) (l.take (k + 1)) = out ++ [X]) := HF
        rw [hX] at c0
        clear HT HF hX
        have tb : True := trivial
        go_wp2_with (first
          | (refine wpList_loadE (x := X) rfl _ rfl rfl HX ?_)
          | (clear tb; refine wpList_buildF rfl _ rfl X rfl ?_; intro w6 b6 F6 I6; have B6 := fresh_b F6; have O6 := own_belowW HO.out B6)
          | (at_builtin; refine wpList_appF rfl _ _ rfl w1.heap.size _ out rfl O6 b6 X rfl I6 (by omega) (by have := B6.size; omega) ?_; intro v7 w7 O7 G7))
        have B7 : Below w1.heap.size w1 w7 := grown_below (Below.then BR B6) O6 (by have := B6.size; omega) G7
        go_roundw
        case rel => exact ⟨k + 1, by omega, by go_num, by rw [HFh.out]; exact O7, B7⟩
        case measure => simp [intOf]; omega
      · have HF := HT.out
        rw [if_neg hX] at HF
        have HFh : Hid (haveN (n : Int) (l.take (k + 1)) = out) := HF
        have hXb : (X.n == (n : Int)) = false := by simpa using hX
        clear HT HF
        go_wp2
        go_roundw
        case rel => exact ⟨k + 1, by omega, by go_num, by rw [HFh.out]; exact HO.out, BR⟩
        case measure => simp [intOf]; omega
    · have e : k = nl := by omega
      subst e
      have hO := HO.out
      rw [List.take_of_length_le (by rw [HLL.out]; exact Nat.le_refl _)] at hO
      have HSet : Hid (IsSet (setF (haveN (n : Int) l))) := setF_set _
      have HN : Hid (∀ x ∈ setF (haveN (n : Int) l), x.n = (n : Int)) := setF_have
      have hm : (haveN (n : Int) l).length ≤ 300 := Nat.le_trans (haveN_len _ _) (by rw [HLL.out]; exact hl)
      have hms : (setF (haveN (n : Int) l)).length ≤ 300 := Nat.le_trans (setF_len _) hm
      have hso := fun W a c (h : Seg W a (flatF (haveN (n : Int) l))) => sort_any a c (haveN (n : Int) l) (by omega) W h
      generalize setF (haveN (n : Int) l) = s at *
      obtain ⟨mh, hmh⟩ : ∃ mh, (haveN (n : Int) l).length = mh := ⟨_, rfl⟩
      obtain ⟨ah, ch, hvh, Sh⟩ := own_slice hO hmh
      subst hvh
      simp only [hmh] at hso
      have hso1 := hso _ _ ch Sh
      obtain ⟨ms, hml⟩ : ∃ ms, s.length = ms := ⟨_, rfl⟩
      have HMS : Hid (s.length = ms) := hml
      rw [hml] at hms
      obtain ⟨WR, eW⟩ : ∃ W, W = wr := ⟨_, rfl⟩
      subst eW
      clear HO hO hso Sh hmh hm hml hlt hk
      go_wp2_with (first
        | (go_at_call 7; refine hso1.mono ?_; rintro e w2 ⟨vs, rfl, O2, B2⟩; obtain ⟨aS, cS, hvs, S2⟩ := own_slice O2 HMS.out; subst hvs; clear hso1))
      have B02 := Below.then (Below.then B1 BR) B2
      clear O2
      go_loopw [12, 13] (fun v i wq => ∃ k : Nat, k ≤ n ∧ i = .int .i64 (k : Int) ∧ Hid (OwnI wq w2.heap.size v k (upTo k)) ∧ Below w2.heap.size w2 wq) (fun _ i _ => n - (intOf i).toNat)
      case atStart => exact ⟨0, Nat.zero_le _, rfl, ⟨World.ownsRow_nil _ _ _ _, rfl⟩, Below.refl _ _⟩
      case round =>
        obtain ⟨k, hk, rfl, HO, BQ⟩ := hrel
        have hsQ := BQ.size
        by_cases hlt : k < n
        · have hltI : (k : Int) < (n : Int) := by omega
          have HU : Hid (upTo (k + 1) = upTo k ++ [(k : Int)]) := upTo_succ k
          obtain ⟨av, cv, hv⟩ := own_form HO.out.1
          subst hv
          generalize upTo k = U at *
          have tb : True := trivial
          go_wp2_with (first
            | (clear tb; refine wpList_build1I rfl _ rfl (k : Int) rfl ?_; intro w6 b6 F6 I6; have B6 := fresh_b F6; have O6 := HO.out.below B6)
            | (at_builtin; refine wpList_appI rfl _ _ rfl w2.heap.size _ k U rfl O6 b6 (k : Int) rfl I6 (by omega) (by have := B6.size; omega) ?_; intro v7 w7 O7 G7))
          have B7 : Below w2.heap.size w2 w7 := (Below.then BQ B6).grown G7 (by have := B6.size; omega) (fun k hk => (O6.1.lt k hk).1)
          go_roundw
          case rel => exact ⟨k + 1, by omega, by go_num, by rw [HU.out]; exact O7, B7⟩
          case measure => simp [intOf]; omega
        · have e : k = n := by omega
          -- TAIL
          subst e
          obtain ⟨aN, cN, hvN, NN⟩ := HO.out.num
          subst hvN
          obtain ⟨WQ, eQ⟩ : ∃ W, W = wr := ⟨_, rfl⟩
          subst eQ
          obtain ⟨e0, eL⟩ := prj_all HSet.out HN.out hn
          have SS := S2.below BQ
          have hP0 := project_any aS aN cS cN s (upTo k) (by rw [HMS.out]; omega) (by rw [upTo_len]; omega) WQ SS NN
          rw [HMS.out, upTo_len, e0, eL] at hP0
          have hSame := fun W a1 a2 c1 c2 (h1 : Seg W a1 (flatF s)) (h2 : Seg W a2 (flatF s)) => same_same a1 a2 c1 c2 s (by rw [HMS.out]; omega) W h1 h2
          simp only [HMS.out] at hSame
          have hP1 := fun W (h : Seg W aS (flatF s)) (hk : NumS W a2 f1) => project_any aS a2 cS c2 s f1 (by rw [HMS.out]; omega) (by rw [HM1.out]; exact h1) W h hk
          simp only [HMS.out, HM1.out] at hP1
          have B0Q := Below.then B02 BQ
          have HKQ1 : Hid (NumS WQ a2 f1) := HK1.out.below B0Q
          have HKQ2 : Hid (NumS WQ a3 f2) := HK2.out.below B0Q
          have hmtS : (prjL s f1).length ≤ ms := by rw [← HMS.out]; exact prjL_len s f1
          have HTset : Hid (IsSet (prjL s f1)) := prjL_set s f1
          clear e0 eL NN HO S2 hsQ hlt hk
          have p0 : True := trivial
          by_cases hE1 : prjE s f1 = 0
          · rw [hE1] at hP1
            have hTt := prjL_ok hE1
            have hP2 := fun W a5 c5 (h : Seg W a5 (flatF (prjL s f1))) (hk : NumS W a3 f2) => project_any a5 a3 c5 c3 (prjL s f1) f2 (by omega) (by rw [HM2.out]; exact h2) W h hk
            have hR := fun W a5 c5 (h : Seg W a5 (flatF (prjL s f1))) => rises_any a5 c5 (prjL s f1) (by omega) W h
            simp only [(setB_set _).2 HTset.out] at hR
            have HTw : Hid (s ≠ [] → prjE (prjL s f1) f2 = 0 → inB f2 (f1.length : Int) = true ∧ prjE s (bothK f1 f2) = 0 ∧ prjL s (bothK f1 f2) = prjL (prjL s f1) f2) := fun h0 h2 => prj_twice HSet.out h0 hE1 h2
            have HZ : Hid (s = [] → prjL (prjL s f1) f2 = []) := fun h => by subst h; rw [prj_nil, prj_nil]
            have hmuT : (prjL (prjL s f1) f2).length ≤ (prjL s f1).length := prjL_len _ _
            generalize prjL s f1 = t at *
            clear hTt hE1
            obtain ⟨mt, hmt⟩ : ∃ mt, t.length = mt := ⟨_, rfl⟩
            have HMT : Hid (t.length = mt) := hmt
            rw [hmt] at hmtS
            simp only [HMT.out, HM2.out] at hP2 hR
            have hmtI : ¬ ((ms : Int) < (mt : Int)) := by omega
            by_cases hE2 : prjE t f2 = 0
            · rw [hE2] at hP2
              by_cases hs0 : s = []
              · have HMU : Hid ((prjL t f2).length = 0) := by show _ = _; rw [HZ.out hs0]; rfl
                have hms0 : ms = 0 := by rw [← HMS.out, hs0]; rfl
                subst hms0
                generalize prjL t f2 = u at *
                clear HTw HZ hs0 hE2 hmuT hmt
                go_wp2_with (first
                  | (clear p0; go_at_call 19; refine hP0.mono ?_; rintro e w3 ⟨v3, rfl, O3, B3⟩; obtain ⟨a3', c3', hv3, S3⟩ := own_slice O3 HMS.out; subst hv3; have S23 := SS.below B3; have p1 : True := trivial)
                  | (go_at_call 13; refine (num_any _ _).mono ?_; rintro e w' ⟨rfl, hw'⟩; replace hw' := hw'.symm; subst hw')
                  | (clear p1; go_at_call 11; refine (hSame _ a3' aS c3' cS S3 S23).mono ?_; rintro e w4 ⟨rfl, B4⟩; have S24 := S23.below B4; have K14 := HKQ1.out.below (Below.then B3 B4); have p2 : True := trivial)
                  | (clear p2; go_at_call 19; refine (hP1 _ S24 K14).mono ?_; rintro e w5 ⟨v5, rfl, O5, B5⟩; obtain ⟨a5, c5, hv5, S5⟩ := own_slice O5 HMT.out; subst hv5; have p3 : True := trivial)
                  | (clear p3; go_at_call 12; refine (hR _ a5 c5 S5).mono ?_; rintro e w6 ⟨rfl, B6⟩; have S56 := S5.below B6; have K26 := HKQ2.out.below (Below.then (Below.then (Below.then B3 B4) B5) B6); have p4 : True := trivial)
                  | (clear p4; go_at_call 19; refine (hP2 _ a5 c5 S56 K26).mono ?_; rintro e w7 ⟨v7, rfl, O7, B7⟩; obtain ⟨a7, c7, hv7, S7⟩ := own_slice O7 HMU.out; subst hv7))
                go_ret
                exact ⟨rfl, Below.then (Below.then (Below.then (Below.then (Below.then B0Q B3) B4) B5) B6) B7⟩
              · obtain ⟨hin, e3, e4⟩ := HTw.out hs0 hE2
                obtain ⟨q1, _⟩ := prjE_zero hE2
                rw [HM2.out] at q1
                have hmu8 : (prjL t f2).length ≤ 8000 := by omega
                have hSameU := fun W a1 a2 c1 c2 (h1 : Seg W a1 (flatF (prjL t f2))) (h2 : Seg W a2 (flatF (prjL t f2))) => same_same a1 a2 c1 c2 (prjL t f2) (by omega) W h1 h2
                obtain ⟨mu, hmu⟩ : ∃ mu, (prjL t f2).length = mu := ⟨_, rfl⟩
                have HMU : Hid ((prjL t f2).length = mu) := hmu
                simp only [hmu] at hSameU
                have hms0 : ms ≠ 0 := by rw [← HMS.out]; exact fun h => hs0 (List.length_eq_zero_iff.1 h)
                have hmsI : ((ms : Int) == 0) = false := by simp; omega
                have hmsI' : ¬ ((ms : Int) = 0) := by omega
                have hP3 := fun W ab cb (h : Seg W aS (flatF s)) (hk : NumS W ab (bothK f1 f2)) => project_any aS ab cS cb s (bothK f1 f2) (by rw [HMS.out]; omega) (by unfold bothK; rw [List.length_map, HM2.out]; omega) W h hk
                rw [e3, e4] at hP3
                have hbl : (bothK f1 f2).length = m2 := by unfold bothK; rw [List.length_map, HM2.out]
                simp only [HMS.out, hbl] at hP3
                generalize prjL t f2 = u at *
                have Hin : Hid (inB f2 (f1.length : Int) = true) := hin
                clear HTw HZ hs0 hE2 hmuT hmt hin e3 e4 hmu
                go_wp2_with (first
                  | (clear p0; go_at_call 19; refine hP0.mono ?_; rintro e w3 ⟨v3, rfl, O3, B3⟩; obtain ⟨a3', c3', hv3, S3⟩ := own_slice O3 HMS.out; subst hv3; have S23 := SS.below B3; have p1 : True := trivial)
                  | (go_at_call 13; refine (num_any _ _).mono ?_; rintro e w' ⟨rfl, hw'⟩; replace hw' := hw'.symm; subst hw')
                  | (clear p1; go_at_call 11; refine (hSame _ a3' aS c3' cS S3 S23).mono ?_; rintro e w4 ⟨rfl, B4⟩; have S24 := S23.below B4; have K14 := HKQ1.out.below (Below.then B3 B4); have p2 : True := trivial)
                  | (clear p2; go_at_call 19; refine (hP1 _ S24 K14).mono ?_; rintro e w5 ⟨v5, rfl, O5, B5⟩; obtain ⟨a5, c5, hv5, S5⟩ := own_slice O5 HMT.out; subst hv5; have p3 : True := trivial)
                  | (clear p3; go_at_call 12; refine (hR _ a5 c5 S5).mono ?_; rintro e w6 ⟨rfl, B6⟩; have S56 := S5.below B6; have K26 := HKQ2.out.below (Below.then (Below.then (Below.then B3 B4) B5) B6); have p4 : True := trivial)
                  | (clear p4; go_at_call 19; refine (hP2 _ a5 c5 S56 K26).mono ?_; rintro e w7 ⟨v7, rfl, O7, B7⟩; obtain ⟨a7, c7, hv7, S7⟩ := own_slice O7 HMU.out; subst hv7))
                -- LOOP3
                have BQ7 := Below.then (Below.then (Below.then (Below.then B3 B4) B5) B6) B7
                have HK17 : Hid (NumS w7 a2 f1) := HKQ1.out.below BQ7
                have HK27 : Hid (NumS w7 a3 f2) := HKQ2.out.below BQ7
                have S27 := SS.below BQ7
                have B07 := Below.then B0Q BQ7
                clear hP0 hP1 hP2 hR hSame O3 O5 O7 S3 S23 S24 K14 S5 S56 K26 SS B3 B4 B5 B6 B7
                go_loopw [20, 21] (fun v i wz => ∃ j : Nat, j ≤ m2 ∧ i = .int .i64 (j : Int) ∧ Hid (OwnI wz w7.heap.size v j (bothK f1 (f2.take j))) ∧ Below w7.heap.size w7 wz) (fun _ i _ => m2 - (intOf i).toNat)
                case atStart => exact ⟨0, Nat.zero_le _, rfl, ⟨World.ownsRow_nil _ _ _ _, rfl⟩, Below.refl _ _⟩
                case round =>
                  obtain ⟨j, hj, rfl, HO, BZ⟩ := hrel
                  have hsZ := BZ.size
                  by_cases hlt : j < m2
                  · obtain ⟨b3, o3, h3e, _, c30⟩ := NumS.at (HK27.out.below BZ) j (by rw [HM2.out]; exact hlt)
                    subst h3e
                    have hr := inB_at Hin.out j (by rw [HM2.out]; exact hlt)
                    rw [HM1.out] at hr
                    have HB : Hid (bothK f1 (f2.take (j + 1)) = bothK f1 (f2.take j) ++ [f1.getD (f2.getD j 0).toNat 0]) := bothK_take f1 f2 j (by rw [HM2.out]; exact hlt)
                    obtain ⟨q, hq⟩ : ∃ q : Nat, f2.getD j 0 = (q : Int) := ⟨(f2.getD j 0).toNat, by omega⟩
                    rw [hq] at c30 HB hr
                    obtain ⟨b2, o2, h2e, _, c20⟩ := NumS.at (HK17.out.below BZ) q (by rw [HM1.out]; omega)
                    subst h2e
                    rw [Int.toNat_natCast] at HB
                    have hjI : (j : Int) < (m2 : Int) := by omega
                    have hqI : (q : Int) < (m1 : Int) := by omega
                    have hqN : ¬ ((m1 : Int) ≤ (q : Int)) := by omega
                    have hq0 : ¬ ((q : Int) < 0) := by omega
                    generalize f1.getD q 0 = y at *
                    clear hq hr
                    obtain ⟨av, cv, hv⟩ := own_form HO.out.1
                    subst hv
                    generalize bothK f1 (f2.take j) = U at *
                    have tb : True := trivial
                    go_wp2_with (first
                      | (clear tb; refine wpList_build1I rfl _ rfl y rfl ?_; intro w8 b8 F8 I8; have B8 := fresh_b F8; have O8 := HO.out.below B8)
                      | (at_builtin; refine wpList_appI rfl _ _ rfl w7.heap.size _ j U rfl O8 b8 y rfl I8 (by omega) (by have := B8.size; omega) ?_; intro v9 w9 O9 G9))
                    have B9 : Below w7.heap.size w7 w9 := (Below.then BZ B8).grown G9 (by have := B8.size; omega) (fun k hk => (O8.1.lt k hk).1)
                    go_roundw
                    case rel => exact ⟨j + 1, by omega, by go_num, by rw [HB.out]; exact O9, B9⟩
                    case measure => simp [intOf]; omega
                  · have e : j = m2 := by omega
                    subst e
                    have hO := HO.out
                    rw [List.take_of_length_le (by rw [HM2.out]; exact Nat.le_refl _)] at hO
                    obtain ⟨ab, cb, hvb, NB⟩ := hO.num
                    subst hvb
                    have hP3' := hP3 _ ab cb (S27.below BZ) NB
                    have S7Z := S7.below BZ
                    clear HO hO hP3 NB hlt
                    go_wp2_with (first
                      | (go_at_call 19; refine hP3'.mono ?_; rintro e wA ⟨vA, rfl, OA, BA⟩; obtain ⟨aA, cA, hvA, SA⟩ := own_slice OA HMU.out; subst hvA; have S7A := S7Z.below BA)
                      | (go_at_call 13; refine (num_any _ _).mono ?_; rintro e w' ⟨rfl, hw'⟩; replace hw' := hw'.symm; subst hw')
                      | (go_at_call 11; refine (hSameU _ a7 aA c7 cA S7A SA).mono ?_; rintro e wB ⟨rfl, BB⟩))
                    go_ret
                    exact ⟨rfl, Below.then (Below.then (Below.then B07 BZ) BA) BB⟩
            · have HMU : Hid ((prjL t f2).length = 0) := by show _ = _; rw [prjL_bad hE2]; rfl
              have hEb : (prjE t f2 == 0) = false := by simpa using hE2
              generalize prjL t f2 = u at *
              generalize prjE t f2 = e2 at *
              clear HTw HZ hmuT hmt
              go_wp2_with (first
                | (clear p0; go_at_call 19; refine hP0.mono ?_; rintro e w3 ⟨v3, rfl, O3, B3⟩; obtain ⟨a3', c3', hv3, S3⟩ := own_slice O3 HMS.out; subst hv3; have S23 := SS.below B3; have p1 : True := trivial)
                | (go_at_call 13; refine (num_any _ _).mono ?_; rintro e w' ⟨rfl, hw'⟩; replace hw' := hw'.symm; subst hw')
                | (clear p1; go_at_call 11; refine (hSame _ a3' aS c3' cS S3 S23).mono ?_; rintro e w4 ⟨rfl, B4⟩; have S24 := S23.below B4; have K14 := HKQ1.out.below (Below.then B3 B4); have p2 : True := trivial)
                | (clear p2; go_at_call 19; refine (hP1 _ S24 K14).mono ?_; rintro e w5 ⟨v5, rfl, O5, B5⟩; obtain ⟨a5, c5, hv5, S5⟩ := own_slice O5 HMT.out; subst hv5; have p3 : True := trivial)
                | (clear p3; go_at_call 12; refine (hR _ a5 c5 S5).mono ?_; rintro e w6 ⟨rfl, B6⟩; have S56 := S5.below B6; have K26 := HKQ2.out.below (Below.then (Below.then (Below.then B3 B4) B5) B6); have p4 : True := trivial)
                | (clear p4; go_at_call 19; refine (hP2 _ a5 c5 S56 K26).mono ?_; rintro e w7 ⟨v7, rfl, O7, B7⟩; obtain ⟨a7, c7, hv7, S7⟩ := own_slice O7 HMU.out; subst hv7))
              go_ret
              exact ⟨rfl, Below.then (Below.then (Below.then (Below.then (Below.then B0Q B3) B4) B5) B6) B7⟩
          · have HMT : Hid ((prjL s f1).length = 0) := by show _ = _; rw [prjL_bad hE1]; rfl
            have hEb : (prjE s f1 == 0) = false := by simpa using hE1
            clear hmtS HTset
            generalize prjL s f1 = t at *
            generalize prjE s f1 = e1 at *
            go_wp2_with (first
              | (clear p0; go_at_call 19; refine hP0.mono ?_; rintro e w3 ⟨v3, rfl, O3, B3⟩; obtain ⟨a3', c3', hv3, S3⟩ := own_slice O3 HMS.out; subst hv3; have S23 := SS.below B3; have p1 : True := trivial)
              | (go_at_call 13; refine (num_any _ _).mono ?_; rintro e w' ⟨rfl, hw'⟩; replace hw' := hw'.symm; subst hw')
              | (clear p1; go_at_call 11; refine (hSame _ a3' aS c3' cS S3 S23).mono ?_; rintro e w4 ⟨rfl, B4⟩; have S24 := S23.below B4; have K14 := HKQ1.out.below (Below.then B3 B4); have p2 : True := trivial)
              | (clear p2; go_at_call 19; refine (hP1 _ S24 K14).mono ?_; rintro e w5 ⟨v5, rfl, O5, B5⟩; obtain ⟨a5, c5, hv5, S5⟩ := own_slice O5 HMT.out; subst hv5; have p3 : True := trivial))
            go_ret
            exact ⟨rfl, Below.then (Below.then (Below.then B0Q B3) B4) B5⟩
theorem projected_any (a a2 a3 : Option Addr) (cap c2 c3 : Nat) (N : Int) (l : List FS) (f1 f2 : List Int) (hl : l.length ≤ 4611686018427387903) (h1 : f1.length ≤ 4611686018427387903) (h2 : f2.length ≤ 4611686018427387903) (w : World) (hS : Seg w a (flatF l)) (hK1 : NumS w a2 f1) (hK2 : NumS w a3 f2) (hT : Tab10 w) :
    Calls Tryd.prog 5 #[.slice a l.length cap, .int .i64 N, .slice a2 f1.length c2, .slice a3 f2.length c3] w fun e w' => e = .returned (.bool true) ∧ Below w.heap.size w w' := by
  by_cases ho : 300 < l.length ∨ N < 0 ∨ 48 < N
  · exact projected_out a a2 a3 cap l.length c2 _ c3 _ N hl ho w hT
  · obtain ⟨n, hn⟩ : ∃ n : Nat, N = (n : Int) := ⟨N.toNat, by omega⟩
    subst hn
    exact projected_in a a2 a3 cap c2 c3 n l f1 f2 (by omega) (by omega) h1 h2 w hS hK1 hK2 hT
end Go.Proofs.YtbhgchhoeokjhabDoor

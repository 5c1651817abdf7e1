/- List of event. -/
import Derived.Test.YtdjlfpkemdiadaaDoorQG
import Derived.Deep.CutRange
namespace Go.Proofs.YtdjlfpkemdiadaaDoor
open Go.RowKit M
set_option linter.unusedSimpArgs false
set_option linter.unusedVariables false

set_option maxRecDepth 100000 in
set_option maxHeartbeats 8000000 in
theorem list_any (p : PG) (hf : p.Few) (f : Nat) (hff : f < 18446744073709551616) (vt vr vl vi vj : Value) (w : World) (hp : PGV w vt vr vl vi vj p) :
    Calls Tryd.prog 9 #[.agg #[vt, vr, vl, vi, vj], .int .u64 (f : Int)] w fun e w' => LsA w (lsL p f) (lsE p f) e w' := by
  have cv := fun W (h : Below w.heap.size w W) => tries_any p hf vt vr vl vi vj W (hp.below h)
  obtain ⟨at', ct, rfl⟩ := hp.t.form
  obtain ⟨al, cl, rfl, hsl, _⟩ := hp.l
  have HT : Hid (RowsV w (.slice at' p.threads.length ct) op5L p.threads) := hp.t
  have hn := hf.t
  have hfl := hf.tt
  have hll := hf.l
  clear hp hf hsl
  obtain ⟨n, hn0⟩ : ∃ n, p.threads.length = n := ⟨_, rfl⟩
  rw [hn0] at cv HT hn ⊢
  have HN : Hid (p.threads.length = n) := hn0
  clear hn0
  obtain ⟨A, hA⟩ : ∃ A, LsA w (lsL p f) (lsE p f) = A := ⟨_, rfl⟩
  have HA : Hid (∀ v w', w'.ownsRow w.heap.size 46 5 v (lsL p f).length ((lsL p f).flatMap evL) → Below w.heap.size w w' → A (.returned (.tuple #[v, .int .i64 (lsE p f)])) w') := by
    rw [← hA]; exact fun v w' h1 h2 => ⟨v, rfl, h1, h2⟩
  rw [hA]
  clear hA
  by_cases hv : validV p = 0
  · have htr : trA p = (trC p.threads.flatten : Int) := if_pos hv
    have hk20 : trC p.threads.flatten ≤ 1048576 := Nat.le_trans (trC_le _) hfl
    have HE : Hid (lsE p f = if f >>> trC p.threads.flatten ≠ 0 then 4 else 0) := by show _ = _; unfold lsE; rw [if_neg (by simp [hv])]
    have HL : Hid (lsL p f = if f >>> trC p.threads.flatten ≠ 0 then [] else evE p f) := by show _ = _; unfold lsL; rw [if_neg (by simp [hv])]
    rw [hv, htr] at cv
    clear hv htr
    have HEV : Hid (evE p f = inE p.locs.length ++ thsE f 0 0 p.threads) := rfl
    generalize evE p f = EE at *
    generalize lsE p f = le at *
    generalize lsL p f = lL at *
    obtain ⟨nl, hnl⟩ : ∃ n, p.locs.length = n := ⟨_, rfl⟩
    rw [hnl] at cv HEV hll ⊢
    generalize p.threads = ths at *
    obtain ⟨K, hK⟩ : ∃ K, trC ths.flatten = K := ⟨_, rfl⟩
    rw [hK] at cv hk20 HE HL
    have hsc := shr_cast f K
    have ci := fun W => initial_any nl hll W
    clear hnl
    go_enter Tryd.func9, Tryd.ntmps9
    go_upto_region 4 with (first
      | (refine wpList_boxS rfl 28 _ rfl [.slice at' n ct, vr, .slice al nl cl, vi, vj] rfl ?_; intro W1 b1 F1 C1; have B1 := F_b F1; clear F1)
      | (refine wpList_loadW rfl 28 _ rfl rfl C1 _ Tryd.underlying28 rfl infoPg ?_)
      | (go_at_call 7; refine (cv _ B1).mono ?_; rintro e W2 ⟨rfl, B2⟩; replace C1 := C1.grown B2; replace B1 := Below.then B1 B2; have y0 : W2.cell? ⟨b1, 0, none⟩ = some (.slice at' n ct) := C1.cell 0; have y2 : W2.cell? ⟨b1, 2, none⟩ = some (.slice al nl cl) := C1.cell 2; clear B2))
    have HB2 : Hid (Below w.heap.size w W2) := B1
    have HK : Hid (trC ths.flatten = K) := hK
    clear B1 hK
    obtain ⟨bb, hbb⟩ : ∃ bb, decide (f >>> K ≠ 0) = bb := ⟨_, rfl⟩
    have HBB : Hid (decide (f >>> K ≠ 0) = bb) := hbb
    clear hbb
    go_cut [25] from 22 to 24 (fun v wx => v = .bool bb ∧ wx = W2)
    case first =>
      by_cases h64 : K < 64
      · have h64i : (K : Int) < 64 := by omega
        go_wp2
        go_meet
        exact ⟨by rw [← HBB.out]; exact shr_ne f K, rfl⟩
      · have h64i : (64 : Int) ≤ K := by omega
        go_wp2
        go_meet
        exact ⟨by rw [← HBB.out]; exact shr_ge f K hff (by omega), rfl⟩
    case rest =>
      obtain ⟨rfl, rfl⟩ := hcut
      clear hsc
      cases bb with
      | true =>
        have hb : f >>> K ≠ 0 := of_decide_eq_true HBB.out
        have hl : lL = [] := by rw [HL.out, if_pos hb]
        have he : le = 4 := by rw [HE.out, if_pos hb]
        rw [hl, he] at HA
        clear HL HE hl he HBB
        go_wp2
        exact HA.out _ _ (own_nil _ _ _ _) HB2.out
      | false =>
        have hb : ¬ f >>> K ≠ 0 := of_decide_eq_false HBB.out
        have hl : lL = EE := by rw [HL.out, if_neg hb]
        have he : le = 0 := by rw [HE.out, if_neg hb]
        rw [hl, he, HEV.out] at HA
        clear HL HE hl he hb HEV HBB
        go_wp2_with (first
          | (go_at_call 28; refine (ci _).mono ?_; rintro e W3 ⟨v8, rfl, O8, B8⟩; have B3 := Below.then HB2.out B8; replace O8 := own_raise O8 HB2.out.size; replace C1 := C1.grown B8; have z0 : W3.cell? ⟨b1, 0, none⟩ = some (.slice at' n ct) := C1.cell 0; clear B8 y0 y2 ci cv))
        obtain ⟨av8, cv8, rfl⟩ := own_form O8
        have HO8 : Hid (W3.ownsRow w.heap.size 46 5 (.slice av8 nl cv8) (inE nl ++ thsE f 0 0 (ths.take 0)).length ((inE nl ++ thsE f 0 0 (ths.take 0)).flatMap evL)) := by
          rw [show thsE f 0 0 (ths.take 0) = [] from rfl, List.append_nil, inE_len]; exact O8
        clear O8 z0 C1
        go_loopw [1, 8, 33] (fun fv v iv wr => ∃ (a m : Nat), a ≤ n ∧ iv = .int .i64 (a : Int) ∧ fv = .int .u64 ((f >>> trC (ths.take a).flatten : Nat) : Int) ∧ (∃ av cv, v = .slice av m cv) ∧ Hid (m = (inE nl ++ thsE f 0 0 (ths.take a)).length) ∧ Hid (wr.ownsRow w.heap.size 46 5 v (inE nl ++ thsE f 0 0 (ths.take a)).length ((inE nl ++ thsE f 0 0 (ths.take a)).flatMap evL)) ∧ Hid (Below w.heap.size w wr)) (fun _ _ iv _ => n - (intOf iv).toNat)
        case atStart => exact ⟨0, nl, by omega, rfl, rfl, ⟨_, _, rfl⟩, (by show nl = _; rw [show thsE f 0 0 (ths.take 0) = [] from rfl, List.append_nil, inE_len]), HO8, B3⟩
        case round =>
          clear HO8 B3
          obtain ⟨a, m, ha, rfl, rfl, ⟨av, cv, rfl⟩, HM, HO8, HB⟩ := hrel
          by_cases hlt : a < n
          · have hai : (a : Int) < n := by omega
            obtain ⟨os, ho⟩ : ∃ q, ths[a]? = some q := ⟨_, List.getElem?_eq_getElem (by rw [HN.out]; exact hlt)⟩
            obtain ⟨bt, ot, ao, co, ea, hbt, ca0, so, _⟩ := HT.out.at a os ho
            subst ea
            have ca := (HB.out.cell (p := ⟨bt, ot + a, none⟩) hbt).trans ca0
            have hpart := fl_part ho
            have hal : (ths.take a).length = a := by rw [List.length_take, HN.out]; omega
            have HX : Hid ((ths.take (a + 1)).flatten = (ths.take a).flatten ++ os ∧ thsE f 0 0 (ths.take (a + 1)) = thsE f 0 0 (ths.take a) ++ opsE f a 0 (trC (ths.take a).flatten) os) := by
              refine ⟨by rw [take_at ho, fl_snoc], ?_⟩
              rw [take_at ho, thsE_snoc, hal, Nat.zero_add, Nat.zero_add]
            have hprl : (inE nl ++ thsE f 0 0 (ths.take a)).length ≤ 1048576 + 2 * (ths.take a).flatten.length := by
              rw [List.length_append, inE_len]; have := thsE_len f (ths.take a) 0 0; omega
            obtain ⟨mo, hmo⟩ : ∃ m, os.length = m := ⟨_, rfl⟩
            rw [hmo] at ca hpart
            have HMO : Hid (os.length = mo) := hmo
            have HOS : Hid (Seg w ao (os.flatMap op5L)) := so
            clear ho ca0 so hmo hal
            generalize (ths.take a).flatten = pre at *
            have HPL : Hid (inE nl ++ thsE f 0 0 (ths.take (a + 1)) = (inE nl ++ thsE f 0 0 (ths.take a)) ++ opsE f a 0 (trC pre) os) := by show _ = _; rw [HX.out.2, List.append_assoc]
            generalize inE nl ++ thsE f 0 0 (ths.take a) = PL at *
            go_wp2
            clear ca
            have HO9 : Hid (wr.ownsRow w.heap.size 46 5 (.slice av m cv) (PL ++ opsE f a 0 (trC pre) (os.take 0)).length ((PL ++ opsE f a 0 (trC pre) (os.take 0)).flatMap evL)) := by
              rw [List.take_zero, show opsE f a 0 (trC pre) [] = [] from rfl, List.append_nil]; exact HO8.out
            go_loopw [1, 8, 40] (fun fv v jv wr => ∃ (b m : Nat), b ≤ mo ∧ jv = .int .i64 (b : Int) ∧ fv = .int .u64 ((f >>> trC (pre ++ os.take b) : Nat) : Int) ∧ (∃ av cv, v = .slice av m cv) ∧ Hid (m = (PL ++ opsE f a 0 (trC pre) (os.take b)).length) ∧ Hid (wr.ownsRow w.heap.size 46 5 v (PL ++ opsE f a 0 (trC pre) (os.take b)).length ((PL ++ opsE f a 0 (trC pre) (os.take b)).flatMap evL)) ∧ Hid (Below w.heap.size w wr)) (fun _ _ jv _ => mo - (intOf jv).toNat)
            case atStart => exact ⟨0, m, by omega, rfl, by rw [List.take_zero, List.append_nil], ⟨_, _, rfl⟩, (by show m = _; rw [List.take_zero, show opsE f a 0 (trC pre) [] = [] from rfl, List.append_nil]; exact HM.out), HO9, HB⟩
            case round =>
              clear HO8 HO9 HB HM
              obtain ⟨b, m, hb, rfl, rfl, ⟨av, cv, rfl⟩, HM, HO8, HB⟩ := hrel
              by_cases hlb : b < mo
              · have hbi : (b : Int) < mo := by omega
                obtain ⟨o, ho⟩ : ∃ q, os[b]? = some q := ⟨_, List.getElem?_eq_getElem (by rw [HMO.out]; exact hlb)⟩
                obtain ⟨bo, oo, ea, hbo, rg0⟩ := Seg.op HOS.out ho
                subst ea
                have rg := range_grow rg0 hbo HB.out
                have hbl : (os.take b).length = b := by rw [List.length_take, HMO.out]; omega
                have HS : Hid (trC (pre ++ os.take (b + 1)) = trC (pre ++ os.take b) + (if o.kind = 8 then 1 else 0) ∧ PL ++ opsE f a 0 (trC pre) (os.take (b + 1)) = (PL ++ opsE f a 0 (trC pre) (os.take b)) ++ mdL o a b (flB f o (trC (pre ++ os.take b)))) := by
                  refine ⟨by rw [take_at ho, ← List.append_assoc, trC_snoc], ?_⟩
                  rw [take_at ho, opsE_snoc, hbl, Nat.zero_add, trC_app, List.append_assoc]
                have hml : m ≤ 1048576 + 2 * 1048576 := by
                  rw [HM.out, List.length_append]
                  have := opsE_len f a (os.take b) 0 (trC pre)
                  omega
                clear rg0 ho
                have HMm : Hid (m = (PL ++ opsE f a 0 (trC pre) (os.take b)).length) := HM
                rw [← HM.out] at HO8
                have HQL : Hid (∃ QL : List EV, QL = PL ++ opsE f a 0 (trC pre) (os.take b)) := ⟨_, rfl⟩
                obtain ⟨QL, hQL⟩ := HQL.out
                rw [← hQL] at HO8 HS HMm
                clear HQL HM hQL
                generalize trC (pre ++ os.take b) = k at *
                have hb1 := bit_and1 f k hff
                have hh := half_shift f k
                have t3 : True := trivial
                by_cases hk : o.kind = 8
                · have HS1 : Hid (trC (pre ++ os.take (b + 1)) = k + 1) := by show _ = _; rw [HS.out.1, if_pos hk]
                  have HS2 : Hid (PL ++ opsE f a 0 (trC pre) (os.take (b + 1)) = QL ++ mdL o a b (f.testBit k)) := by
                    show _ = _
                    rw [HS.out.2]; unfold flB; rw [decide_eq_true hk, Bool.true_and]
                  clear HS
                  obtain ⟨q2, hq2⟩ : ∃ q2, f >>> (k + 1) = q2 := ⟨_, rfl⟩
                  rw [hq2] at hh
                  have HQ : Hid (f >>> (k + 1) = q2) := hq2
                  clear hq2
                  generalize f >>> k = q at *
                  cases htb : f.testBit k with
                  | true =>
                    rw [htb] at hb1 HS2
                    simp only [if_true] at hb1
                    clear htb
                    go_wp2_with (first
                      | (refine wpList_load_mid rfl 58 _ rfl bo (oo + b * 5) rfl (op5L o) _ rg Tryd.underlying58 rfl infoOp ?_)
                      | (clear t3; refine wpList_allocS rfl 58 rfl (op5L ⟨0, 0, 0, 0, 0⟩) zeroOp ?_; intro W4 b4 F4 K4; have R4 := Below.then HB.out (F_b F4); have hc4 : w.heap.size ≤ b4 := Nat.le_trans HB.out.size (Nat.le_of_eq F4.at'.symm); have O4 := own_below HO8.out (F_b F4); clear F4)
                      | (refine wpList_storeW rfl 58 _ _ rfl rfl (op5L o) rfl K4 rfl infoOp (op_one _) ?_; intro W5 U5 K5; have R5 := U5.trans R4 hc4; have O5 := own_updT O4 K4 U5 (by decide); have y0 : W5.cell? ⟨b4, 0, none⟩ = some (.int .i64 o.kind) := K5.cell 0; clear K4 U5 R4 O4)
                      | (refine wpList_loadW rfl 58 _ rfl rfl K5 _ Tryd.underlying58 rfl infoOp ?_)
                      | (go_at_call 29; refine (made_any o _ _ true _).mono ?_; rintro e W6 ⟨v6, rfl, R6v, B6⟩; have R6 := Below.then R5 B6; have O6 := own_below O5 B6; clear B6 R5 O5 K5 y0)
                      | (at_builtin; refine wpList_appM eEv rfl _ _ rfl w.heap.size _ _ _ rfl O6 _ _ _ rfl R6v (ev_len _) (ev_oneL _) (by have := mdL_le o a b true; omega) R6.size ?_; intro v7 W7 O7 G7; have R7 := grown_below R6 R6.size O6 G7; clear O6 G7 R6 R6v))
                    rw [← List.flatMap_append] at O7
                    obtain ⟨a7, c7, rfl⟩ := own_form O7
                    have HO7 : Hid (W7.ownsRow w.heap.size 46 5 (.slice a7 (m + (mdL o a b true).length) c7) (PL ++ opsE f a 0 (trC pre) (os.take (b + 1))).length ((PL ++ opsE f a 0 (trC pre) (os.take (b + 1))).flatMap evL)) := by rw [HS2.out, List.length_append, ← HMm.out]; exact O7
                    have HM7 : Hid (m + (mdL o a b true).length = (PL ++ opsE f a 0 (trC pre) (os.take (b + 1))).length) := by show _ = _; rw [HS2.out, List.length_append, ← HMm.out]
                    clear O7
                    generalize (mdL o a b true).length = ml at *
                    go_roundw
                    case rel => exact ⟨b + 1, m + ml, by omega, by simp, by rw [HS1.out, HQ.out], ⟨_, _, rfl⟩, HM7, HO7, R7⟩
                    case measure => simp [intOf]; omega
                  | false =>
                    rw [htb] at hb1 HS2
                    simp only [Bool.false_eq_true, if_false] at hb1
                    clear htb
                    go_wp2_with (first
                      | (refine wpList_load_mid rfl 58 _ rfl bo (oo + b * 5) rfl (op5L o) _ rg Tryd.underlying58 rfl infoOp ?_)
                      | (clear t3; refine wpList_allocS rfl 58 rfl (op5L ⟨0, 0, 0, 0, 0⟩) zeroOp ?_; intro W4 b4 F4 K4; have R4 := Below.then HB.out (F_b F4); have hc4 : w.heap.size ≤ b4 := Nat.le_trans HB.out.size (Nat.le_of_eq F4.at'.symm); have O4 := own_below HO8.out (F_b F4); clear F4)
                      | (refine wpList_storeW rfl 58 _ _ rfl rfl (op5L o) rfl K4 rfl infoOp (op_one _) ?_; intro W5 U5 K5; have R5 := U5.trans R4 hc4; have O5 := own_updT O4 K4 U5 (by decide); have y0 : W5.cell? ⟨b4, 0, none⟩ = some (.int .i64 o.kind) := K5.cell 0; clear K4 U5 R4 O4)
                      | (refine wpList_loadW rfl 58 _ rfl rfl K5 _ Tryd.underlying58 rfl infoOp ?_)
                      | (go_at_call 29; refine (made_any o _ _ false _).mono ?_; rintro e W6 ⟨v6, rfl, R6v, B6⟩; have R6 := Below.then R5 B6; have O6 := own_below O5 B6; clear B6 R5 O5 K5 y0)
                      | (at_builtin; refine wpList_appM eEv rfl _ _ rfl w.heap.size _ _ _ rfl O6 _ _ _ rfl R6v (ev_len _) (ev_oneL _) (by have := mdL_le o a b false; omega) R6.size ?_; intro v7 W7 O7 G7; have R7 := grown_below R6 R6.size O6 G7; clear O6 G7 R6 R6v))
                    rw [← List.flatMap_append] at O7
                    obtain ⟨a7, c7, rfl⟩ := own_form O7
                    have HO7 : Hid (W7.ownsRow w.heap.size 46 5 (.slice a7 (m + (mdL o a b false).length) c7) (PL ++ opsE f a 0 (trC pre) (os.take (b + 1))).length ((PL ++ opsE f a 0 (trC pre) (os.take (b + 1))).flatMap evL)) := by rw [HS2.out, List.length_append, ← HMm.out]; exact O7
                    have HM7 : Hid (m + (mdL o a b false).length = (PL ++ opsE f a 0 (trC pre) (os.take (b + 1))).length) := by show _ = _; rw [HS2.out, List.length_append, ← HMm.out]
                    clear O7
                    generalize (mdL o a b false).length = ml at *
                    go_roundw
                    case rel => exact ⟨b + 1, m + ml, by omega, by simp, by rw [HS1.out, HQ.out], ⟨_, _, rfl⟩, HM7, HO7, R7⟩
                    case measure => simp [intOf]; omega
                · have HS1 : Hid (trC (pre ++ os.take (b + 1)) = k) := by show _ = _; rw [HS.out.1, if_neg hk]; rfl
                  have HS2 : Hid (PL ++ opsE f a 0 (trC pre) (os.take (b + 1)) = QL ++ mdL o a b false) := by
                    show _ = _
                    rw [HS.out.2]; unfold flB; rw [decide_eq_false hk, Bool.false_and]
                  clear HS hb1 hh
                  obtain ⟨q, hq⟩ : ∃ q, f >>> k = q := ⟨_, rfl⟩
                  have HQ : Hid (f >>> k = q) := hq
                  rw [hq]
                  clear hq
                  go_wp2_with (first
                    | (refine wpList_load_mid rfl 58 _ rfl bo (oo + b * 5) rfl (op5L o) _ rg Tryd.underlying58 rfl infoOp ?_)
                    | (clear t3; refine wpList_allocS rfl 58 rfl (op5L ⟨0, 0, 0, 0, 0⟩) zeroOp ?_; intro W4 b4 F4 K4; have R4 := Below.then HB.out (F_b F4); have hc4 : w.heap.size ≤ b4 := Nat.le_trans HB.out.size (Nat.le_of_eq F4.at'.symm); have O4 := own_below HO8.out (F_b F4); clear F4)
                    | (refine wpList_storeW rfl 58 _ _ rfl rfl (op5L o) rfl K4 rfl infoOp (op_one _) ?_; intro W5 U5 K5; have R5 := U5.trans R4 hc4; have O5 := own_updT O4 K4 U5 (by decide); have y0 : W5.cell? ⟨b4, 0, none⟩ = some (.int .i64 o.kind) := K5.cell 0; clear K4 U5 R4 O4)
                    | (refine wpList_loadW rfl 58 _ rfl rfl K5 _ Tryd.underlying58 rfl infoOp ?_)
                    | (go_at_call 29; refine (made_any o _ _ false _).mono ?_; rintro e W6 ⟨v6, rfl, R6v, B6⟩; have R6 := Below.then R5 B6; have O6 := own_below O5 B6; clear B6 R5 O5 K5 y0)
                    | (at_builtin; refine wpList_appM eEv rfl _ _ rfl w.heap.size _ _ _ rfl O6 _ _ _ rfl R6v (ev_len _) (ev_oneL _) (by have := mdL_le o a b false; omega) R6.size ?_; intro v7 W7 O7 G7; have R7 := grown_below R6 R6.size O6 G7; clear O6 G7 R6 R6v))
                  rw [← List.flatMap_append] at O7
                  obtain ⟨a7, c7, rfl⟩ := own_form O7
                  have HO7 : Hid (W7.ownsRow w.heap.size 46 5 (.slice a7 (m + (mdL o a b false).length) c7) (PL ++ opsE f a 0 (trC pre) (os.take (b + 1))).length ((PL ++ opsE f a 0 (trC pre) (os.take (b + 1))).flatMap evL)) := by rw [HS2.out, List.length_append, ← HMm.out]; exact O7
                  have HM7 : Hid (m + (mdL o a b false).length = (PL ++ opsE f a 0 (trC pre) (os.take (b + 1))).length) := by show _ = _; rw [HS2.out, List.length_append, ← HMm.out]
                  clear O7
                  generalize (mdL o a b false).length = ml at *
                  go_roundw
                  case rel => exact ⟨b + 1, m + ml, by omega, by simp, by rw [HS1.out, HQ.out], ⟨_, _, rfl⟩, HM7, HO7, R7⟩
                  case measure => simp [intOf]; omega
              · obtain rfl : b = mo := by omega
                have HTO : os.take b = os := List.take_of_length_le (Nat.le_of_eq HMO.out)
                rw [HTO, ← HPL.out] at HO8 HM
                have HX1 : Hid (trC (pre ++ os.take b) = trC (ths.take (a + 1)).flatten) := by show _ = _; rw [HX.out.1, HTO]
                clear HTO
                go_wp2
                go_roundw
                case rel => exact ⟨a + 1, m, by omega, by simp, by rw [HX1.out], ⟨_, _, rfl⟩, HM, HO8, HB⟩
                case measure => simp [intOf]; omega
          · obtain rfl : a = n := by omega
            have HT2 : ths.take a = ths := List.take_of_length_le (Nat.le_of_eq HN.out)
            rw [HT2] at HO8 HM
            go_wp2
            exact HA.out _ _ HO8.out HB.out
  · have hl : lsL p f = [] := if_pos hv
    have he : lsE p f = validV p := if_pos hv
    have htr : trA p = 0 := if_neg hv
    rw [hl, he] at HA
    rw [htr] at cv
    clear hl he htr
    generalize validV p = ev at *
    go_enter Tryd.func9, Tryd.ntmps9
    go_wp2_with (first
      | (refine wpList_boxS rfl 28 _ rfl [.slice at' n ct, vr, .slice al p.locs.length cl, vi, vj] rfl ?_; intro W1 b1 F1 C1; have B1 := F_b F1; clear F1)
      | (refine wpList_loadW rfl 28 _ rfl rfl C1 _ Tryd.underlying28 rfl infoPg ?_)
      | (go_at_call 7; refine (cv _ B1).mono ?_; rintro e W2 ⟨rfl, B2⟩; replace B1 := Below.then B1 B2; clear B2))
    exact HA.out _ _ (own_nil _ _ _ _) B1
end Go.Proofs.YtdjlfpkemdiadaaDoor

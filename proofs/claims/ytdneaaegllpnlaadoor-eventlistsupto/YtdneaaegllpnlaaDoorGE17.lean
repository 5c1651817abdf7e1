/- List of the reference. -/
import Derived.Test.YtdneaaegllpnlaaDoorQG
import Derived.Deep.AppendLies
namespace Go.Proofs.YtdneaaegllpnlaaDoor
open Go.RowKit M
set_option linter.unusedSimpArgs false
set_option linter.unusedVariables false

theorem isS_growT {W W' : World} {B t t' s n b : Nat} {v : Value} {xs cs : List Value} (I : IsS W b t' cs) (h : W.ownsRow B t s v n xs) (hg : W.grownBy W' v.ownBlock) (hne : t ≠ t') : IsS W' b t' cs := by
  refine (hg.block b I.lt (fun e => ?_)).trans I
  rcases h.2 with ⟨rfl, _⟩ | ⟨g, cap, cur, rfl, _, hh, _⟩
  · cases e
  · simp [Value.ownBlock] at e
    subst e
    have I' : W.heap[b]? = some (.cells cs.toArray t' (0, 0)) := I
    rw [hh] at I'
    simp at I'
    exact hne I'.2
theorem shr_gt (f K : Nat) : Value.bool (decide (0 < ((f : Int) >>> K))) = .bool (decide (f >>> K ≠ 0)) := by
  have e : ((f : Int) >>> K) = ((f >>> K : Nat) : Int) := by simp
  rw [e]
  generalize f >>> K = q
  cases q with
  | zero => rfl
  | succ q =>
    have h : decide (0 < ((q + 1 : Nat) : Int)) = true := decide_eq_true (by omega)
    rw [h]; simp
theorem shr_out (f K : Nat) (hf : f < 18446744073709551616) (hK : 64 ≤ K) : f >>> K = 0 := by
  rw [Nat.shiftRight_eq_div_pow]
  exact Nat.div_eq_of_lt (Nat.lt_of_lt_of_le hf (Nat.pow_le_pow_right (n := 2) (by omega) hK))
theorem bit_out (f K : Nat) (hf : f < 18446744073709551616) (hK : 64 ≤ K) : f.testBit K = false :=
  Nat.testBit_lt_two_pow (Nat.lt_of_lt_of_le hf (Nat.pow_le_pow_right (n := 2) (by omega) hK))
theorem min64 (f K : Nat) (hf : f < 18446744073709551616) (hK : 64 ≤ K) : (f : Int) / 2 ^ min K 64 = 0 := by
  rw [Nat.min_eq_right hK]
  exact Int.ediv_eq_zero_of_lt (by omega) (by have : ((2 : Int) ^ 64) = 18446744073709551616 := by decide
                                              rw [this]; omega)
theorem bit8a (f k : Nat) (hf : f < 18446744073709551616) : (bits .and .u64 ((f : Int) / 2 ^ k) 1 == 0) = !f.testBit k := by
  rw [shr_cast, bit_and1 f k hf]
  cases f.testBit k <;> rfl
theorem bit8b (f k : Nat) (hf : f < 18446744073709551616) (hk : 64 ≤ k) : (bits .and .u64 ((f : Int) / 18446744073709551616) 1 == 0) = !f.testBit k := by
  rw [bit_out f k hf hk, show (f : Int) / 18446744073709551616 = 0 by omega]
  rfl
theorem run_appZE {w : World} {t T k by' : Nat} {z : Value} (E : Elt t T k z by') (B : Nat) (v : Value) (n : Nat) (xs : List Value) (hown : w.ownsRow B t k v n xs) (bq m c : Nat) (cs : List Value) (hT : IsS w bq t cs) (hl : cs.length = m * k) (h1 : ∀ x ∈ cs, x.oneCell' = true) (hm : 0 < m) (hn : n + m ≤ 4194304) (hB : B ≤ w.heap.size) (ty : TypeId) :
    ∃ g cap w', (Builtin.append_ #[T, T] ty #[v, .slice (some ⟨bq, 0, none⟩) m c]).run Tryd.prog w = .ok (.slice (some ⟨g, 0, none⟩) (n + m) cap) w' ∧ w'.ownsRow B t k (.slice (some ⟨g, 0, none⟩) (n + m) cap) (n + m) (xs ++ cs) ∧ w.grownBy w' v.ownBlock ∧ (v.ownBlock = some g ∨ g = w.heap.size) := by
  obtain ⟨i0, hi, hz, hs, hby⟩ := E.info
  have hfew := E.few
  have hb : (n + m) * by' ≤ 140737488355328 := Nat.le_trans (Nat.mul_le_mul hn hfew) (by decide)
  obtain ⟨g, cap, w', hr, h2, h3, h4, _⟩ := run_append_lies (P := Tryd.prog) w T ty B t i0 z k by' E.und hi hz hs hby E.cells E.pos v n xs hown ⟨bq, 0, none⟩ m c cs hl (fun j y hj => by rw [Addr.add_mid, Nat.zero_add]; exact (hT.cell j).trans hj) h1 hm (by unfold maxLen; omega) hb hB _ rfl
  exact ⟨g, cap, w', hr, h2, h3, h4⟩
/-- A list under way, and beside it the event that is being made. -/
structure KX (w W : World) (b1 b13 : Nat) (cs : List Value) (v : Value) (m : Nat) (L : List EV) (x : EV) : Prop where
  own : W.ownsRow w.heap.size 32 5 v m (L.flatMap evL)
  x : IsS W b13 32 (evL x)
  p : IsS W b1 28 cs
  b : Below w.heap.size w W
  hi : w.heap.size ≤ b13
  ne : ∀ kk, v.ownBlock = some kk → kk ≠ b13
  ne1 : b1 ≠ b13
theorem KX.upd {w W W' : World} {b1 b13 m : Nat} {cs : List Value} {v : Value} {L : List EV} {x : EV} (x' : EV) (h : KX w W b1 b13 cs v m L x) (U : Upd W W' b13) {ys : List Value} (e : ys = evL x') (I : IsS W' b13 32 ys) : KX w W' b1 b13 cs v m L x' :=
  ⟨own_same h.own (fun kk hk => U.block kk (h.ne kk hk)), e ▸ I, h.p.upd U h.ne1, U.trans h.b h.hi, h.hi, h.ne, h.ne1⟩
theorem KX.fresh {w W W' : World} {b1 b13 m b : Nat} {cs : List Value} {v : Value} {L : List EV} {x : EV} (h : KX w W b1 b13 cs v m L x) (F : Fresh W W' b) : KX w W' b1 b13 cs v m L x :=
  ⟨own_below h.own (F_b F), h.x.fresh F, h.p.fresh F, Below.then h.b (F_b F), h.hi, h.ne, h.ne1⟩
section
variable {w W : World} {ops : Array Oper} {rest : List Oper} {op : Oper} {a : Act} {Q : Exit → Act → World → Prop} {b1 b13 m : Nat} {cs : List Value} {v : Value} {L : List EV} {x : EV}
theorem wpList_appK (hgd : op.guard = none) (s y : Operand) (ho : op.op = .call { callee := .builtin .append, args := #[s, y], argTypes := #[39, 39] }) (h : KX w W b1 b13 cs v m L x) {b3 : Nat} {e : EV} (C : IsS W b3 32 (evL e)) (hs : a.eval s = v) (hy : a.eval y = .slice (some ⟨b3, 0, none⟩) 1 1) (hm : m + 1 ≤ 4194304)
    (hh : ∀ g c W', KX w W' b1 b13 cs (.slice (some ⟨g, 0, none⟩) (m + 1) c) (m + 1) (L ++ [e]) x → wpList Tryd.prog ops Q rest (a.put op.dst (.slice (some ⟨g, 0, none⟩) (m + 1) c)) W') : wpList Tryd.prog ops Q (op :: rest) a W := by
  refine wpList_plain hgd fun K hK => ?_
  obtain ⟨g, cap, W', hr, h2, h3, h4⟩ := run_appZE eEv w.heap.size v m _ h.own b3 1 1 (evL e) C rfl (ev_oneC e) (by decide) hm h.b.size op.type
  have hne : v.ownBlock ≠ some b13 := fun e => h.ne _ e rfl
  have hk : KX w W' b1 b13 cs (.slice (some ⟨g, 0, none⟩) (m + 1) cap) (m + 1) (L ++ [e]) x := by
    refine ⟨by rw [ev_snocL]; exact h2, (h3.block b13 h.x.lt (fun e => hne e.symm)).trans h.x, isS_growT h.p h.own h3 (by decide), grown_below h.b h.b.size h.own h3, h.hi, ?_, h.ne1⟩
    intro kk hk
    simp [Value.ownBlock] at hk
    subst hk
    rcases h4 with h4 | h4
    · exact h.ne _ h4
    · have := h.x.lt
      omega
  unfold Oper.wp
  rw [exec_app s y ho hs hy hr]
  exact hK _ _ (hh g cap W' hk)
end
set_option maxRecDepth 100000 in
set_option maxHeartbeats 16000000 in
theorem rlist_any (p : PG) (hf : p.Few) (f : Nat) (hff : f < 18446744073709551616) (vt vr vl vi vj : Value) (w : World) (hp : PGV w vt vr vl vi vj p) :
    Calls Tryd.prog 13 #[.agg #[vt, vr, vl, vi, vj], .int .u64 (f : Int)] w fun e w' => LsA w (lsL p f) (lsE p f) e w' := by
  have cv := fun W (h : Below w.heap.size w W) => rtries_any p hf vt vr vl vi vj W (hp.below h)
  obtain ⟨at', ct, rfl⟩ := hp.t.form
  obtain ⟨al, cl, rfl, hsl, _⟩ := hp.l
  have HT : Hid (RowsV w (.slice at' p.threads.length ct) op5L p.threads) := hp.t
  have hn := hf.t
  have hfl := hf.tt
  have hll := hf.l
  clear hp hf hsl
  obtain ⟨n, hn0⟩ : ∃ n, p.threads.length = n := ⟨_, rfl⟩
  rw [hn0] at cv HT hn ⊢
  have HN : Hid (p.threads.length = n) := hn0
  clear hn0
  obtain ⟨A, hA⟩ : ∃ A, LsA w (lsL p f) (lsE p f) = A := ⟨_, rfl⟩
  have HA : Hid (∀ v w', w'.ownsRow w.heap.size 32 5 v (lsL p f).length ((lsL p f).flatMap evL) → Below w.heap.size w w' → A (.returned (.tuple #[v, .int .i64 (lsE p f)])) w') := by
    rw [← hA]; exact fun v w' h1 h2 => ⟨v, rfl, h1, h2⟩
  rw [hA]
  clear hA
  by_cases hv : validV p = 0
  · have htr : trA p = (trC p.threads.flatten : Int) := if_pos hv
    have hk20 : trC p.threads.flatten ≤ 1048576 := Nat.le_trans (trC_le _) hfl
    have HE : Hid (lsE p f = if f >>> trC p.threads.flatten ≠ 0 then 4 else 0) := by show _ = _; unfold lsE; rw [if_neg (by simp [hv])]
    have HL : Hid (lsL p f = if f >>> trC p.threads.flatten ≠ 0 then [] else evE p f) := by show _ = _; unfold lsL; rw [if_neg (by simp [hv])]
    rw [hv, htr] at cv
    clear hv htr
    have HEV : Hid (evE p f = inE p.locs.length ++ thsE f 0 0 p.threads) := rfl
    generalize evE p f = EE at *
    generalize lsE p f = le at *
    generalize lsL p f = lL at *
    obtain ⟨nl, hnl⟩ : ∃ n, p.locs.length = n := ⟨_, rfl⟩
    rw [hnl] at cv HEV hll ⊢
    generalize p.threads = ths at *
    obtain ⟨K, hK⟩ : ∃ K, trC ths.flatten = K := ⟨_, rfl⟩
    rw [hK] at cv hk20 HE HL
    have hsc := shr_cast f K
    clear hnl
    go_enter Tryd.func13, Tryd.ntmps13
    go_upto_region 4 with (first
      | (refine wpList_boxS rfl 28 _ rfl [.slice at' n ct, vr, .slice al nl cl, vi, vj] rfl ?_; intro W1 b1 F1 C1; have B1 := F_b F1; clear F1)
      | (refine wpList_loadW rfl 28 _ rfl rfl C1 _ Tryd.underlying28 rfl infoPg ?_)
      | (go_at_call 11; refine (cv _ B1).mono ?_; rintro e W2 ⟨rfl, B2⟩; replace C1 := C1.grown B2; replace B1 := Below.then B1 B2; clear B2))
    have HB2 : Hid (Below w.heap.size w W2) := B1
    clear B1 cv hK
    obtain ⟨bb, hbb⟩ : ∃ bb, decide (f >>> K ≠ 0) = bb := ⟨_, rfl⟩
    have HBB : Hid (decide (f >>> K ≠ 0) = bb) := hbb
    clear hbb
    go_cut [32] from 24 to 31 (fun v wx => v = .bool bb ∧ wx = W2)
    case first =>
      by_cases h64 : K < 64
      · have h64i : (K : Int) < 64 := by omega
        go_wp2
        go_meet
        exact ⟨by rw [← HBB.out]; exact shr_gt f K, rfl⟩
      · have h64i : ¬ (K : Int) < 64 := by omega
        go_wp2
        go_meet
        exact ⟨by rw [← HBB.out, shr_out f K hff (by omega)]; rfl, rfl⟩
    case rest =>
      obtain ⟨rfl, rfl⟩ := hcut
      clear hsc
      cases bb with
      | true =>
        have hb : f >>> K ≠ 0 := of_decide_eq_true HBB.out
        have hl : lL = [] := by rw [HL.out, if_pos hb]
        have he : le = 4 := by rw [HE.out, if_pos hb]
        rw [hl, he] at HA
        clear HL HE hl he HBB
        go_wp2
        exact HA.out _ _ (own_nil _ _ _ _) HB2.out
      | false =>
        have hb : ¬ f >>> K ≠ 0 := of_decide_eq_false HBB.out
        have hl : lL = EE := by rw [HL.out, if_neg hb]
        have he : le = 0 := by rw [HE.out, if_neg hb]
        rw [hl, he, HEV.out] at HA
        clear HL HE hl he hb HEV HBB
        go_wp2
        go_loopw [8, 9] (fun v iv wr => ∃ i : Nat, i ≤ nl ∧ iv = .int .i64 (i : Int) ∧ (∃ av cv, v = .slice av i cv) ∧ Hid (wr.ownsRow w.heap.size 32 5 v i ((inE i).flatMap evL)) ∧ IsS wr b1 28 [.slice at' n ct, vr, .slice al nl cl, vi, vj] ∧ Hid (Below w.heap.size w wr)) (fun _ iv _ => nl - (intOf iv).toNat)
        case atStart => exact ⟨0, by omega, rfl, ⟨_, _, rfl⟩, own_nil _ _ _ _, C1, HB2⟩
        case round =>
          clear C1 HB2
          obtain ⟨i, hi, rfl, ⟨av, cv, rfl⟩, HO, C1, HB⟩ := hrel
          have y2 : wr.cell? ⟨b1, 2, none⟩ = some (.slice al nl cl) := C1.cell 2
          by_cases hlt : i < nl
          · have hki : (i : Int) < nl := by omega
            have HS : Hid ((inE (i + 1)).flatMap evL = (inE i).flatMap evL ++ evL ⟨1, -1, 0, (i : Int), false⟩) := by show _ = _; rw [inE_snoc, ev_snocL]
            go_wp2_with (first
              | (refine wpList_bB rfl _ rfl rfl ?_)
              | (refine wpList_build1V rfl _ rfl ⟨1, -1, 0, (i : Int), false⟩ rfl ?_; intro W3 b3 F3 C3; have B3 := Below.then HB.out (F_b F3); have O3 := own_below HO.out (F_b F3); have D1 := C1.fresh F3; clear F3)
              | (at_builtin; refine wpList_appM eEv rfl _ _ rfl w.heap.size _ i _ rfl O3 _ 1 (evL ⟨1, -1, 0, (i : Int), false⟩) rfl (row_isS C3) rfl (ev_oneC _) (by omega) B3.size ?_; intro v4 W4 O4 G4; have B4 := grown_below B3 B3.size O3 G4; have D4 := isS_growT D1 O3 G4 (by decide); clear O3 G4 B3 C3 D1))
            have O5 : Hid (W4.ownsRow w.heap.size 32 5 v4 (i + 1) ((inE (i + 1)).flatMap evL)) := by rw [HS.out]; exact O4
            obtain ⟨a5, c5, rfl⟩ := own_form O4
            go_roundw
            case rel => exact ⟨i + 1, by omega, by simp, ⟨_, _, rfl⟩, O5, D4, B4⟩
            case measure => simp [intOf]; omega
          · obtain rfl : i = nl := by omega
            have HO8 : Hid (wr.ownsRow w.heap.size 32 5 (.slice av i cv) (inE i ++ thsE f 0 0 (ths.take 0)).length ((inE i ++ thsE f 0 0 (ths.take 0)).flatMap evL)) := by
              rw [show thsE f 0 0 (ths.take 0) = [] from rfl, List.append_nil, inE_len]; exact HO.out
            clear HO
            go_wp2
            clear y2
            go_loopw [6, 8, 10] (fun nv v iv wr => ∃ (a m : Nat), a ≤ n ∧ iv = .int .i64 (a : Int) ∧ nv = .int .i64 (trC (ths.take a).flatten : Nat) ∧ (∃ av cv, v = .slice av m cv) ∧ Hid (m = (inE i ++ thsE f 0 0 (ths.take a)).length) ∧ Hid (wr.ownsRow w.heap.size 32 5 v (inE i ++ thsE f 0 0 (ths.take a)).length ((inE i ++ thsE f 0 0 (ths.take a)).flatMap evL)) ∧ IsS wr b1 28 [.slice at' n ct, vr, .slice al i cl, vi, vj] ∧ Hid (Below w.heap.size w wr)) (fun _ _ iv _ => n - (intOf iv).toNat)
            case atStart => exact ⟨0, i, by omega, rfl, rfl, ⟨_, _, rfl⟩, (by show i = _; rw [show thsE f 0 0 (ths.take 0) = [] from rfl, List.append_nil, inE_len]), HO8, C1, HB⟩
            case round =>
              clear HO8 HB C1
              obtain ⟨a, m, ha, rfl, rfl, ⟨av, cv, rfl⟩, HM, HO8, C1, HB⟩ := hrel
              have y0 : wr.cell? ⟨b1, 0, none⟩ = some (.slice at' n ct) := C1.cell 0
              by_cases hlt : a < n
              · have hai : (a : Int) < n := by omega
                obtain ⟨os, ho⟩ : ∃ q, ths[a]? = some q := ⟨_, List.getElem?_eq_getElem (by rw [HN.out]; exact hlt)⟩
                obtain ⟨bt, ot, ao, co, ea, hbt, ca0, so, _⟩ := HT.out.at a os ho
                subst ea
                have ca := (HB.out.cell (p := ⟨bt, ot + a, none⟩) hbt).trans ca0
                have hpart := fl_part ho
                have hal : (ths.take a).length = a := by rw [List.length_take, HN.out]; omega
                have HX : Hid ((ths.take (a + 1)).flatten = (ths.take a).flatten ++ os ∧ thsE f 0 0 (ths.take (a + 1)) = thsE f 0 0 (ths.take a) ++ opsE f a 0 (trC (ths.take a).flatten) os) := by
                  refine ⟨by rw [take_at ho, fl_snoc], ?_⟩
                  rw [take_at ho, thsE_snoc, hal, Nat.zero_add, Nat.zero_add]
                have hprl : (inE i ++ thsE f 0 0 (ths.take a)).length ≤ 1048576 + 2 * (ths.take a).flatten.length := by
                  rw [List.length_append, inE_len]; have := thsE_len f (ths.take a) 0 0; omega
                obtain ⟨mo, hmo⟩ : ∃ m, os.length = m := ⟨_, rfl⟩
                rw [hmo] at ca hpart
                have HMO : Hid (os.length = mo) := hmo
                have HOS : Hid (Seg w ao (os.flatMap op5L)) := so
                have HCA : Hid (w.cell? ⟨bt, ot + a, none⟩ = some (.slice ao mo co) ∧ bt < w.heap.size) := ⟨(by rw [← hmo]; exact ca0), hbt⟩
                clear ho ca0 so hmo hal
                generalize (ths.take a).flatten = pre at *
                have HPL : Hid (inE i ++ thsE f 0 0 (ths.take (a + 1)) = (inE i ++ thsE f 0 0 (ths.take a)) ++ opsE f a 0 (trC pre) os) := by show _ = _; rw [HX.out.2, List.append_assoc]
                generalize inE i ++ thsE f 0 0 (ths.take a) = PL at *
                go_wp2
                clear ca y0
                have HO9 : Hid (wr.ownsRow w.heap.size 32 5 (.slice av m cv) (PL ++ opsE f a 0 (trC pre) (os.take 0)).length ((PL ++ opsE f a 0 (trC pre) (os.take 0)).flatMap evL)) := by
                  rw [List.take_zero, show opsE f a 0 (trC pre) [] = [] from rfl, List.append_nil]; exact HO8.out
                go_loopw [6, 8, 11] (fun nv v jv wr => ∃ (b m : Nat), b ≤ mo ∧ jv = .int .i64 (b : Int) ∧ nv = .int .i64 (trC (pre ++ os.take b) : Nat) ∧ (∃ av cv, v = .slice av m cv) ∧ Hid (m = (PL ++ opsE f a 0 (trC pre) (os.take b)).length) ∧ Hid (wr.ownsRow w.heap.size 32 5 v (PL ++ opsE f a 0 (trC pre) (os.take b)).length ((PL ++ opsE f a 0 (trC pre) (os.take b)).flatMap evL)) ∧ IsS wr b1 28 [.slice (some ⟨bt, ot, none⟩) n ct, vr, .slice al i cl, vi, vj] ∧ Hid (Below w.heap.size w wr)) (fun _ _ jv _ => mo - (intOf jv).toNat)
                case atStart => exact ⟨0, m, by omega, rfl, by rw [List.take_zero, List.append_nil], ⟨_, _, rfl⟩, (by show m = _; rw [List.take_zero, show opsE f a 0 (trC pre) [] = [] from rfl, List.append_nil]; exact HM.out), HO9, C1, HB⟩
                case round =>
                  clear HO8 HO9 HB HM C1
                  obtain ⟨b, m, hb, rfl, rfl, ⟨av, cv, rfl⟩, HM, HO8, C1, HB⟩ := hrel
                  have y0 : wr.cell? ⟨b1, 0, none⟩ = some (.slice (some ⟨bt, ot, none⟩) n ct) := C1.cell 0
                  have ca := (HB.out.cell (p := ⟨bt, ot + a, none⟩) HCA.out.2).trans HCA.out.1
                  by_cases hlb : b < mo
                  · have hbi : (b : Int) < mo := by omega
                    obtain ⟨o, ho⟩ : ∃ q, os[b]? = some q := ⟨_, List.getElem?_eq_getElem (by rw [HMO.out]; exact hlb)⟩
                    obtain ⟨bo, oo, ea, hbo, rg0⟩ := Seg.op HOS.out ho
                    subst ea
                    have rg := range_grow rg0 hbo HB.out
                    have hbl : (os.take b).length = b := by rw [List.length_take, HMO.out]; omega
                    have HS : Hid (trC (pre ++ os.take (b + 1)) = trC (pre ++ os.take b) + (if o.kind = 8 then 1 else 0) ∧ PL ++ opsE f a 0 (trC pre) (os.take (b + 1)) = (PL ++ opsE f a 0 (trC pre) (os.take b)) ++ mdL o a b (flB f o (trC (pre ++ os.take b)))) := by
                      refine ⟨by rw [take_at ho, ← List.append_assoc, trC_snoc], ?_⟩
                      rw [take_at ho, opsE_snoc, hbl, Nat.zero_add, trC_app, List.append_assoc]
                    have hml : m ≤ 1048576 + 2 * 1048576 := by
                      rw [HM.out, List.length_append]
                      have := opsE_len f a (os.take b) 0 (trC pre)
                      omega
                    have hkk : trC (pre ++ os.take b) ≤ 1048576 := by
                      have h1 := trC_le (pre ++ os.take b)
                      rw [List.length_append, hbl] at h1
                      omega
                    clear rg0 ho
                    have HMm : Hid (m = (PL ++ opsE f a 0 (trC pre) (os.take b)).length) := HM
                    rw [← HM.out] at HO8
                    have HQL : Hid (∃ QL : List EV, QL = PL ++ opsE f a 0 (trC pre) (os.take b)) := ⟨_, rfl⟩
                    obtain ⟨QL, hQL⟩ := HQL.out
                    rw [← hQL] at HO8 HS HMm
                    clear HQL HM hQL
                    generalize trC (pre ++ os.take b) = k at *
                    go_upto_region 21 with (first
                      | (refine wpList_load_mid rfl 75 _ rfl bo (oo + b * 5) rfl (op5L o) _ rg Tryd.underlying75 rfl infoOp ?_)
                      | (refine wpList_allocS rfl 75 rfl (op5L ⟨0, 0, 0, 0, 0⟩) zeroOp ?_; intro W4 b12 F4 K4; have R4 := Below.then HB.out (F_b F4); have hc4 : w.heap.size ≤ b12 := Nat.le_trans HB.out.size (Nat.le_of_eq F4.at'.symm); have O4 := own_below HO8.out (F_b F4); have hn1 : b1 ≠ b12 := (by have := C1.lt; have := F4.at'; omega); have D4 := C1.fresh F4; clear F4)
                      | (refine wpList_storeW rfl 75 _ _ rfl rfl (op5L o) rfl K4 rfl infoOp (op_one _) ?_; intro W5 U5 K5; have R5 := U5.trans R4 hc4; have O5 := own_updT O4 K4 U5 (by decide); have D5 := D4.upd U5 hn1; have y3 : W5.cell? ⟨b12, 3, none⟩ = some (.int .i64 o.loc) := K5.cell 3; clear K4 U5 R4 O4 D4)
                      | (refine wpList_bC rfl _ _ _ rfl rfl rfl rfl ?_)
                      | (refine wpList_allocS rfl 32 rfl (evL ev0) zeroEv ?_; intro W6 b13 F6 K6; have R6 := Below.then R5 (F_b F6); have hc6 : w.heap.size ≤ b13 := Nat.le_trans R5.size (Nat.le_of_eq F6.at'.symm); have O6 := own_below O5 (F_b F6); have hn13 : b1 ≠ b13 := (by have := D5.lt; have := F6.at'; omega); have hn12 : b12 ≠ b13 := (by have := K5.lt; have := F6.at'; omega); have hof : ∀ kk, (Value.slice av m cv).ownBlock = some kk → kk ≠ b13 := (fun kk hk e => by have := (own_lt O5 hk).2; have := F6.at'; omega); have D6 := D5.fresh F6; have K62 := K5.fresh F6; clear F6 R5 O5 D5 K5 y3)
                      | (refine wpList_storeW rfl 32 _ _ rfl rfl (evL ⟨0, (a : Int), (b : Int), o.loc, false⟩) rfl K6 rfl infoEv (ev_oneC _) ?_; intro W7 U7 X7; have R7 := U7.trans R6 hc6; have O7 : W7.ownsRow w.heap.size 32 5 (.slice av m cv) m (QL.flatMap evL) := own_same O6 (fun kk hk => U7.block kk (hof kk hk)); have D7 := D6.upd U7 hn13; have K7 := K62.upd U7 hn12; have z0 : W7.cell? ⟨b12, 0, none⟩ = some (.int .i64 o.kind) := K7.cell 0; clear U7 K6 R6 O6 D6 K62))
                    clear ca rg HO8 HB C1
                    have HK7 : KX w W7 b1 b13 _ (.slice av m cv) m QL ⟨0, (a : Int), (b : Int), o.loc, false⟩ := ⟨O7, X7, D7, R7, hc6, hof, hn13⟩
                    clear O7 X7 D7 R7 hc6 hof hn13 K7 hn12 hn1 hc4 y0
                    rcases (show o.kind = 3 ∨ o.kind = 4 ∨ o.kind = 5 ∨ o.kind = 6 ∨ o.kind = 7 ∨ o.kind = 8 ∨ o.kind = 9 ∨ (o.kind ≠ 3 ∧ o.kind ≠ 4 ∧ o.kind ≠ 5 ∧ o.kind ≠ 6 ∧ o.kind ≠ 7 ∧ o.kind ≠ 8 ∧ o.kind ≠ 9) by omega) with hk | hk | hk | hk | hk | hk | hk | ⟨k3, k4, k5, k6, k7, k8, k9⟩
                    · have HL9 : Hid (PL ++ opsE f a 0 (trC pre) (os.take (b + 1)) = QL ++ [⟨3, (a : Int), (b : Int), o.loc, false⟩]) := by show _ = _; rw [HS.out.2]; simp [mdL, flB, hk]
                      have HN9 : Hid (trC (pre ++ os.take (b + 1)) = k) := by show _ = _; rw [HS.out.1]; simp [hk]
                      clear HS
                      go_wp2_with (first
                        | (refine wpList_store1 rfl 3 _ _ rfl rfl (.int .i64 3) rfl HK7.x (show 0 < 5 by decide) (by kernel_rfl) rfl ?_; intro VA1 UA1 IA1; have A1 := HK7.upd ⟨3, (a : Int), (b : Int), o.loc, false⟩ UA1 rfl IA1; clear UA1 IA1 HK7)
                        | (refine wpList_loadW rfl 32 _ rfl rfl A1.x _ Tryd.underlying32 rfl infoEv ?_)
                        | (refine wpList_build1V rfl _ rfl ⟨3, (a : Int), (b : Int), o.loc, false⟩ rfl ?_; intro VA2 gA2 FA2 CA2; have A2 := A1.fresh FA2; clear FA2 A1)
                        | (at_builtin; refine wpList_appK rfl _ _ rfl A2 CA2 rfl rfl (by omega) ?_; intro gA3 cA3 VA3 A3; clear CA2 A2))
                      have HM9 : Hid (m + 1 = (PL ++ opsE f a 0 (trC pre) (os.take (b + 1))).length) := by show _ = _; rw [HL9.out]; simp [HMm.out]
                      go_roundw
                      case rel => exact ⟨b + 1, m + 1, by omega, by simp, by rw [HN9.out], ⟨_, _, rfl⟩, HM9, (by rw [← HM9.out, HL9.out]; exact A3.own), A3.p, A3.b⟩
                      case measure => simp [intOf]; omega
                    · have HL9 : Hid (PL ++ opsE f a 0 (trC pre) (os.take (b + 1)) = QL ++ [⟨2, (a : Int), (b : Int), o.loc, false⟩]) := by show _ = _; rw [HS.out.2]; simp [mdL, flB, hk]
                      have HN9 : Hid (trC (pre ++ os.take (b + 1)) = k) := by show _ = _; rw [HS.out.1]; simp [hk]
                      clear HS
                      go_wp2_with (first
                        | (refine wpList_store1 rfl 3 _ _ rfl rfl (.int .i64 2) rfl HK7.x (show 0 < 5 by decide) (by kernel_rfl) rfl ?_; intro VA1 UA1 IA1; have A1 := HK7.upd ⟨2, (a : Int), (b : Int), o.loc, false⟩ UA1 rfl IA1; clear UA1 IA1 HK7)
                        | (refine wpList_loadW rfl 32 _ rfl rfl A1.x _ Tryd.underlying32 rfl infoEv ?_)
                        | (refine wpList_build1V rfl _ rfl ⟨2, (a : Int), (b : Int), o.loc, false⟩ rfl ?_; intro VA2 gA2 FA2 CA2; have A2 := A1.fresh FA2; clear FA2 A1)
                        | (at_builtin; refine wpList_appK rfl _ _ rfl A2 CA2 rfl rfl (by omega) ?_; intro gA3 cA3 VA3 A3; clear CA2 A2))
                      have HM9 : Hid (m + 1 = (PL ++ opsE f a 0 (trC pre) (os.take (b + 1))).length) := by show _ = _; rw [HL9.out]; simp [HMm.out]
                      go_roundw
                      case rel => exact ⟨b + 1, m + 1, by omega, by simp, by rw [HN9.out], ⟨_, _, rfl⟩, HM9, (by rw [← HM9.out, HL9.out]; exact A3.own), A3.p, A3.b⟩
                      case measure => simp [intOf]; omega
                    · have HL9 : Hid (PL ++ opsE f a 0 (trC pre) (os.take (b + 1)) = QL ++ [⟨2, (a : Int), (b : Int), o.loc, false⟩]) := by show _ = _; rw [HS.out.2]; simp [mdL, flB, hk]
                      have HN9 : Hid (trC (pre ++ os.take (b + 1)) = k) := by show _ = _; rw [HS.out.1]; simp [hk]
                      clear HS
                      go_wp2_with (first
                        | (refine wpList_store1 rfl 3 _ _ rfl rfl (.int .i64 2) rfl HK7.x (show 0 < 5 by decide) (by kernel_rfl) rfl ?_; intro VA1 UA1 IA1; have A1 := HK7.upd ⟨2, (a : Int), (b : Int), o.loc, false⟩ UA1 rfl IA1; clear UA1 IA1 HK7)
                        | (refine wpList_loadW rfl 32 _ rfl rfl A1.x _ Tryd.underlying32 rfl infoEv ?_)
                        | (refine wpList_build1V rfl _ rfl ⟨2, (a : Int), (b : Int), o.loc, false⟩ rfl ?_; intro VA2 gA2 FA2 CA2; have A2 := A1.fresh FA2; clear FA2 A1)
                        | (at_builtin; refine wpList_appK rfl _ _ rfl A2 CA2 rfl rfl (by omega) ?_; intro gA3 cA3 VA3 A3; clear CA2 A2))
                      have HM9 : Hid (m + 1 = (PL ++ opsE f a 0 (trC pre) (os.take (b + 1))).length) := by show _ = _; rw [HL9.out]; simp [HMm.out]
                      go_roundw
                      case rel => exact ⟨b + 1, m + 1, by omega, by simp, by rw [HN9.out], ⟨_, _, rfl⟩, HM9, (by rw [← HM9.out, HL9.out]; exact A3.own), A3.p, A3.b⟩
                      case measure => simp [intOf]; omega
                    · have HL9 : Hid (PL ++ opsE f a 0 (trC pre) (os.take (b + 1)) = QL ++ [⟨4, (a : Int), (b : Int), -1, false⟩]) := by show _ = _; rw [HS.out.2]; simp [mdL, flB, hk]
                      have HN9 : Hid (trC (pre ++ os.take (b + 1)) = k) := by show _ = _; rw [HS.out.1]; simp [hk]
                      clear HS
                      go_wp2_with (first
                        | (refine wpList_bA rfl 4 _ _ _ rfl rfl rfl rfl ?_)
                        | (refine wpList_build1V rfl _ rfl ⟨4, (a : Int), (b : Int), -1, false⟩ rfl ?_; intro VA2 gA2 FA2 CA2; have A2 := HK7.fresh FA2; clear FA2 HK7)
                        | (at_builtin; refine wpList_appK rfl _ _ rfl A2 CA2 rfl rfl (by omega) ?_; intro gA3 cA3 VA3 A3; clear CA2 A2))
                      have HM9 : Hid (m + 1 = (PL ++ opsE f a 0 (trC pre) (os.take (b + 1))).length) := by show _ = _; rw [HL9.out]; simp [HMm.out]
                      go_roundw
                      case rel => exact ⟨b + 1, m + 1, by omega, by simp, by rw [HN9.out], ⟨_, _, rfl⟩, HM9, (by rw [← HM9.out, HL9.out]; exact A3.own), A3.p, A3.b⟩
                      case measure => simp [intOf]; omega
                    · have HL9 : Hid (PL ++ opsE f a 0 (trC pre) (os.take (b + 1)) = QL ++ [⟨3, (a : Int), (b : Int), o.loc, true⟩] ++ [⟨2, (a : Int), (b : Int), o.loc, true⟩]) := by show _ = _; rw [HS.out.2]; simp [mdL, flB, hk]
                      have HN9 : Hid (trC (pre ++ os.take (b + 1)) = k) := by show _ = _; rw [HS.out.1]; simp [hk]
                      clear HS
                      go_wp2_with (first
                        | (refine wpList_store1 rfl 4 _ _ rfl rfl (.bool true) rfl HK7.x (show 4 < 5 by decide) (by kernel_rfl) rfl ?_; intro VA0 UA0 IA0; have A0 := HK7.upd ⟨0, (a : Int), (b : Int), o.loc, true⟩ UA0 rfl IA0; clear UA0 IA0 HK7)
                        | (refine wpList_store1 rfl 3 _ _ rfl rfl (.int .i64 3) rfl A0.x (show 0 < 5 by decide) (by kernel_rfl) rfl ?_; intro VA1 UA1 IA1; have A1 := A0.upd ⟨3, (a : Int), (b : Int), o.loc, true⟩ UA1 rfl IA1; clear UA1 IA1 A0)
                        | (refine wpList_loadW rfl 32 _ rfl rfl A1.x _ Tryd.underlying32 rfl infoEv ?_)
                        | (refine wpList_build1V rfl _ rfl ⟨3, (a : Int), (b : Int), o.loc, true⟩ rfl ?_; intro VA2 gA2 FA2 CA2; have A2 := A1.fresh FA2; clear FA2 A1)
                        | (at_builtin; refine wpList_appK rfl _ _ rfl A2 CA2 rfl rfl (by omega) ?_; intro gA3 cA3 VA3 A3; clear CA2 A2)
                        | (refine wpList_store1 rfl 3 _ _ rfl rfl (.int .i64 2) rfl A3.x (show 0 < 5 by decide) (by kernel_rfl) rfl ?_; intro VB1 UB1 IB1; have B1 := A3.upd ⟨2, (a : Int), (b : Int), o.loc, true⟩ UB1 rfl IB1; clear UB1 IB1 A3)
                        | (refine wpList_loadW rfl 32 _ rfl rfl B1.x _ Tryd.underlying32 rfl infoEv ?_)
                        | (refine wpList_build1V rfl _ rfl ⟨2, (a : Int), (b : Int), o.loc, true⟩ rfl ?_; intro VB2 gB2 FB2 CB2; have B2 := B1.fresh FB2; clear FB2 B1)
                        | (at_builtin; refine wpList_appK rfl _ _ rfl B2 CB2 rfl rfl (by omega) ?_; intro gB3 cB3 VB3 B3; clear CB2 B2))
                      have HM9 : Hid (m + 1 + 1 = (PL ++ opsE f a 0 (trC pre) (os.take (b + 1))).length) := by show _ = _; rw [HL9.out]; simp [HMm.out]
                      go_roundw
                      case rel => exact ⟨b + 1, m + 1 + 1, by omega, by simp, by rw [HN9.out], ⟨_, _, rfl⟩, HM9, (by rw [← HM9.out, HL9.out]; exact B3.own), B3.p, B3.b⟩
                      case measure => simp [intOf]; omega
                    · rcases Nat.lt_or_ge k 64 with h64 | h64
                      · have h64i : (k : Int) < 64 := by omega
                        go_upto_region 37 with (first
                          | (refine wpList_store1 rfl 4 _ _ rfl rfl (.bool true) rfl HK7.x (show 4 < 5 by decide) (by kernel_rfl) rfl ?_; intro VA0 UA0 IA0; have A0 := HK7.upd ⟨0, (a : Int), (b : Int), o.loc, true⟩ UA0 rfl IA0; clear UA0 IA0 HK7))
                        rw [bit8a f k hff]
                        obtain ⟨tb, htb⟩ : ∃ tb, f.testBit k = tb := ⟨_, rfl⟩
                        rw [htb]
                        cases tb with
                        | true =>
                          have HL9 : Hid (PL ++ opsE f a 0 (trC pre) (os.take (b + 1)) = QL ++ [⟨3, (a : Int), (b : Int), o.loc, true⟩]) := by show _ = _; rw [HS.out.2]; simp [mdL, flB, hk, htb]
                          have HN9 : Hid (trC (pre ++ os.take (b + 1)) = k + 1) := by show _ = _; rw [HS.out.1]; simp [hk, htb]
                          clear HS
                          clear htb hk h64 h64i
                          go_wp2_with (first
                            | (refine wpList_store1 rfl 3 _ _ rfl rfl (.int .i64 3) rfl A0.x (show 0 < 5 by decide) (by kernel_rfl) rfl ?_; intro VA1 UA1 IA1; have A1 := A0.upd ⟨3, (a : Int), (b : Int), o.loc, true⟩ UA1 rfl IA1; clear UA1 IA1 A0)
                            | (refine wpList_loadW rfl 32 _ rfl rfl A1.x _ Tryd.underlying32 rfl infoEv ?_)
                            | (refine wpList_build1V rfl _ rfl ⟨3, (a : Int), (b : Int), o.loc, true⟩ rfl ?_; intro VA2 gA2 FA2 CA2; have A2 := A1.fresh FA2; clear FA2 A1)
                            | (at_builtin; refine wpList_appK rfl _ _ rfl A2 CA2 rfl rfl (by omega) ?_; intro gA3 cA3 VA3 A3; clear CA2 A2))
                          have HM9 : Hid (m + 1 = (PL ++ opsE f a 0 (trC pre) (os.take (b + 1))).length) := by show _ = _; rw [HL9.out]; simp [HMm.out]
                          go_roundw
                          case rel => exact ⟨b + 1, m + 1, by omega, by simp, by rw [HN9.out]; simp, ⟨_, _, rfl⟩, HM9, (by rw [← HM9.out, HL9.out]; exact A3.own), A3.p, A3.b⟩
                          case measure => simp [intOf]; omega
                        | false =>
                          have HL9 : Hid (PL ++ opsE f a 0 (trC pre) (os.take (b + 1)) = QL ++ [⟨3, (a : Int), (b : Int), o.loc, true⟩] ++ [⟨2, (a : Int), (b : Int), o.loc, true⟩]) := by show _ = _; rw [HS.out.2]; simp [mdL, flB, hk, htb]
                          have HN9 : Hid (trC (pre ++ os.take (b + 1)) = k + 1) := by show _ = _; rw [HS.out.1]; simp [hk, htb]
                          clear HS
                          clear htb hk h64 h64i
                          go_wp2_with (first
                            | (refine wpList_store1 rfl 3 _ _ rfl rfl (.int .i64 3) rfl A0.x (show 0 < 5 by decide) (by kernel_rfl) rfl ?_; intro VA1 UA1 IA1; have A1 := A0.upd ⟨3, (a : Int), (b : Int), o.loc, true⟩ UA1 rfl IA1; clear UA1 IA1 A0)
                            | (refine wpList_loadW rfl 32 _ rfl rfl A1.x _ Tryd.underlying32 rfl infoEv ?_)
                            | (refine wpList_build1V rfl _ rfl ⟨3, (a : Int), (b : Int), o.loc, true⟩ rfl ?_; intro VA2 gA2 FA2 CA2; have A2 := A1.fresh FA2; clear FA2 A1)
                            | (at_builtin; refine wpList_appK rfl _ _ rfl A2 CA2 rfl rfl (by omega) ?_; intro gA3 cA3 VA3 A3; clear CA2 A2)
                            | (refine wpList_store1 rfl 3 _ _ rfl rfl (.int .i64 2) rfl A3.x (show 0 < 5 by decide) (by kernel_rfl) rfl ?_; intro VB1 UB1 IB1; have B1 := A3.upd ⟨2, (a : Int), (b : Int), o.loc, true⟩ UB1 rfl IB1; clear UB1 IB1 A3)
                            | (refine wpList_loadW rfl 32 _ rfl rfl B1.x _ Tryd.underlying32 rfl infoEv ?_)
                            | (refine wpList_build1V rfl _ rfl ⟨2, (a : Int), (b : Int), o.loc, true⟩ rfl ?_; intro VB2 gB2 FB2 CB2; have B2 := B1.fresh FB2; clear FB2 B1)
                            | (at_builtin; refine wpList_appK rfl _ _ rfl B2 CB2 rfl rfl (by omega) ?_; intro gB3 cB3 VB3 B3; clear CB2 B2))
                          have HM9 : Hid (m + 1 + 1 = (PL ++ opsE f a 0 (trC pre) (os.take (b + 1))).length) := by show _ = _; rw [HL9.out]; simp [HMm.out]
                          go_roundw
                          case rel => exact ⟨b + 1, m + 1 + 1, by omega, by simp, by rw [HN9.out]; simp, ⟨_, _, rfl⟩, HM9, (by rw [← HM9.out, HL9.out]; exact B3.own), B3.p, B3.b⟩
                          case measure => simp [intOf]; omega
                      · have h64i : ¬ (k : Int) < 64 := by omega
                        go_upto_region 37 with (first
                          | (refine wpList_store1 rfl 4 _ _ rfl rfl (.bool true) rfl HK7.x (show 4 < 5 by decide) (by kernel_rfl) rfl ?_; intro VA0 UA0 IA0; have A0 := HK7.upd ⟨0, (a : Int), (b : Int), o.loc, true⟩ UA0 rfl IA0; clear UA0 IA0 HK7))
                        rw [bit8b f k hff h64]
                        obtain ⟨tb, htb⟩ : ∃ tb, f.testBit k = tb := ⟨_, rfl⟩
                        rw [htb]
                        cases tb with
                        | true =>
                          have HL9 : Hid (PL ++ opsE f a 0 (trC pre) (os.take (b + 1)) = QL ++ [⟨3, (a : Int), (b : Int), o.loc, true⟩]) := by show _ = _; rw [HS.out.2]; simp [mdL, flB, hk, htb]
                          have HN9 : Hid (trC (pre ++ os.take (b + 1)) = k + 1) := by show _ = _; rw [HS.out.1]; simp [hk, htb]
                          clear HS
                          clear htb hk h64 h64i
                          go_wp2_with (first
                            | (refine wpList_store1 rfl 3 _ _ rfl rfl (.int .i64 3) rfl A0.x (show 0 < 5 by decide) (by kernel_rfl) rfl ?_; intro VA1 UA1 IA1; have A1 := A0.upd ⟨3, (a : Int), (b : Int), o.loc, true⟩ UA1 rfl IA1; clear UA1 IA1 A0)
                            | (refine wpList_loadW rfl 32 _ rfl rfl A1.x _ Tryd.underlying32 rfl infoEv ?_)
                            | (refine wpList_build1V rfl _ rfl ⟨3, (a : Int), (b : Int), o.loc, true⟩ rfl ?_; intro VA2 gA2 FA2 CA2; have A2 := A1.fresh FA2; clear FA2 A1)
                            | (at_builtin; refine wpList_appK rfl _ _ rfl A2 CA2 rfl rfl (by omega) ?_; intro gA3 cA3 VA3 A3; clear CA2 A2))
                          have HM9 : Hid (m + 1 = (PL ++ opsE f a 0 (trC pre) (os.take (b + 1))).length) := by show _ = _; rw [HL9.out]; simp [HMm.out]
                          go_roundw
                          case rel => exact ⟨b + 1, m + 1, by omega, by simp, by rw [HN9.out]; simp, ⟨_, _, rfl⟩, HM9, (by rw [← HM9.out, HL9.out]; exact A3.own), A3.p, A3.b⟩
                          case measure => simp [intOf]; omega
                        | false =>
                          have HL9 : Hid (PL ++ opsE f a 0 (trC pre) (os.take (b + 1)) = QL ++ [⟨3, (a : Int), (b : Int), o.loc, true⟩] ++ [⟨2, (a : Int), (b : Int), o.loc, true⟩]) := by show _ = _; rw [HS.out.2]; simp [mdL, flB, hk, htb]
                          have HN9 : Hid (trC (pre ++ os.take (b + 1)) = k + 1) := by show _ = _; rw [HS.out.1]; simp [hk, htb]
                          clear HS
                          clear htb hk h64 h64i
                          go_wp2_with (first
                            | (refine wpList_store1 rfl 3 _ _ rfl rfl (.int .i64 3) rfl A0.x (show 0 < 5 by decide) (by kernel_rfl) rfl ?_; intro VA1 UA1 IA1; have A1 := A0.upd ⟨3, (a : Int), (b : Int), o.loc, true⟩ UA1 rfl IA1; clear UA1 IA1 A0)
                            | (refine wpList_loadW rfl 32 _ rfl rfl A1.x _ Tryd.underlying32 rfl infoEv ?_)
                            | (refine wpList_build1V rfl _ rfl ⟨3, (a : Int), (b : Int), o.loc, true⟩ rfl ?_; intro VA2 gA2 FA2 CA2; have A2 := A1.fresh FA2; clear FA2 A1)
                            | (at_builtin; refine wpList_appK rfl _ _ rfl A2 CA2 rfl rfl (by omega) ?_; intro gA3 cA3 VA3 A3; clear CA2 A2)
                            | (refine wpList_store1 rfl 3 _ _ rfl rfl (.int .i64 2) rfl A3.x (show 0 < 5 by decide) (by kernel_rfl) rfl ?_; intro VB1 UB1 IB1; have B1 := A3.upd ⟨2, (a : Int), (b : Int), o.loc, true⟩ UB1 rfl IB1; clear UB1 IB1 A3)
                            | (refine wpList_loadW rfl 32 _ rfl rfl B1.x _ Tryd.underlying32 rfl infoEv ?_)
                            | (refine wpList_build1V rfl _ rfl ⟨2, (a : Int), (b : Int), o.loc, true⟩ rfl ?_; intro VB2 gB2 FB2 CB2; have B2 := B1.fresh FB2; clear FB2 B1)
                            | (at_builtin; refine wpList_appK rfl _ _ rfl B2 CB2 rfl rfl (by omega) ?_; intro gB3 cB3 VB3 B3; clear CB2 B2))
                          have HM9 : Hid (m + 1 + 1 = (PL ++ opsE f a 0 (trC pre) (os.take (b + 1))).length) := by show _ = _; rw [HL9.out]; simp [HMm.out]
                          go_roundw
                          case rel => exact ⟨b + 1, m + 1 + 1, by omega, by simp, by rw [HN9.out]; simp, ⟨_, _, rfl⟩, HM9, (by rw [← HM9.out, HL9.out]; exact B3.own), B3.p, B3.b⟩
                          case measure => simp [intOf]; omega
                    · have HL9 : Hid (PL ++ opsE f a 0 (trC pre) (os.take (b + 1)) = QL ++ [⟨3, (a : Int), (b : Int), o.loc, true⟩] ++ [⟨2, (a : Int), (b : Int), o.loc, true⟩]) := by show _ = _; rw [HS.out.2]; simp [mdL, flB, hk]
                      have HN9 : Hid (trC (pre ++ os.take (b + 1)) = k) := by show _ = _; rw [HS.out.1]; simp [hk]
                      clear HS
                      go_wp2_with (first
                        | (refine wpList_store1 rfl 4 _ _ rfl rfl (.bool true) rfl HK7.x (show 4 < 5 by decide) (by kernel_rfl) rfl ?_; intro VA0 UA0 IA0; have A0 := HK7.upd ⟨0, (a : Int), (b : Int), o.loc, true⟩ UA0 rfl IA0; clear UA0 IA0 HK7)
                        | (refine wpList_store1 rfl 3 _ _ rfl rfl (.int .i64 3) rfl A0.x (show 0 < 5 by decide) (by kernel_rfl) rfl ?_; intro VA1 UA1 IA1; have A1 := A0.upd ⟨3, (a : Int), (b : Int), o.loc, true⟩ UA1 rfl IA1; clear UA1 IA1 A0)
                        | (refine wpList_loadW rfl 32 _ rfl rfl A1.x _ Tryd.underlying32 rfl infoEv ?_)
                        | (refine wpList_build1V rfl _ rfl ⟨3, (a : Int), (b : Int), o.loc, true⟩ rfl ?_; intro VA2 gA2 FA2 CA2; have A2 := A1.fresh FA2; clear FA2 A1)
                        | (at_builtin; refine wpList_appK rfl _ _ rfl A2 CA2 rfl rfl (by omega) ?_; intro gA3 cA3 VA3 A3; clear CA2 A2)
                        | (refine wpList_store1 rfl 3 _ _ rfl rfl (.int .i64 2) rfl A3.x (show 0 < 5 by decide) (by kernel_rfl) rfl ?_; intro VB1 UB1 IB1; have B1 := A3.upd ⟨2, (a : Int), (b : Int), o.loc, true⟩ UB1 rfl IB1; clear UB1 IB1 A3)
                        | (refine wpList_loadW rfl 32 _ rfl rfl B1.x _ Tryd.underlying32 rfl infoEv ?_)
                        | (refine wpList_build1V rfl _ rfl ⟨2, (a : Int), (b : Int), o.loc, true⟩ rfl ?_; intro VB2 gB2 FB2 CB2; have B2 := B1.fresh FB2; clear FB2 B1)
                        | (at_builtin; refine wpList_appK rfl _ _ rfl B2 CB2 rfl rfl (by omega) ?_; intro gB3 cB3 VB3 B3; clear CB2 B2))
                      have HM9 : Hid (m + 1 + 1 = (PL ++ opsE f a 0 (trC pre) (os.take (b + 1))).length) := by show _ = _; rw [HL9.out]; simp [HMm.out]
                      go_roundw
                      case rel => exact ⟨b + 1, m + 1 + 1, by omega, by simp, by rw [HN9.out], ⟨_, _, rfl⟩, HM9, (by rw [← HM9.out, HL9.out]; exact B3.own), B3.p, B3.b⟩
                      case measure => simp [intOf]; omega
                    · have HL9 : Hid (PL ++ opsE f a 0 (trC pre) (os.take (b + 1)) = QL) := by show _ = _; rw [HS.out.2]; simp [mdL, flB, k3, k4, k5, k6, k7, k8, k9]
                      have HN9 : Hid (trC (pre ++ os.take (b + 1)) = k) := by show _ = _; rw [HS.out.1]; simp [k3, k4, k5, k6, k7, k8, k9]
                      clear HS
                      go_wp2
                      have HM9 : Hid (m = (PL ++ opsE f a 0 (trC pre) (os.take (b + 1))).length) := by show _ = _; rw [HL9.out]; simp [HMm.out]
                      go_roundw
                      case rel => exact ⟨b + 1, m, by omega, by simp, by rw [HN9.out], ⟨_, _, rfl⟩, HM9, (by rw [← HM9.out, HL9.out]; exact HK7.own), HK7.p, HK7.b⟩
                      case measure => simp [intOf]; omega
                  · obtain rfl : b = mo := by omega
                    have HTO : os.take b = os := List.take_of_length_le (Nat.le_of_eq HMO.out)
                    rw [HTO, ← HPL.out] at HO8 HM
                    have HX1 : Hid (trC (pre ++ os.take b) = trC (ths.take (a + 1)).flatten) := by show _ = _; rw [HX.out.1, HTO]
                    clear HTO
                    go_wp2
                    go_roundw
                    case rel => exact ⟨a + 1, m, by omega, by simp, by rw [HX1.out], ⟨_, _, rfl⟩, HM, HO8, C1, HB⟩
                    case measure => simp [intOf]; omega
              · obtain rfl : a = n := by omega
                have HT2 : ths.take a = ths := List.take_of_length_le (Nat.le_of_eq HN.out)
                rw [HT2] at HO8 HM
                go_wp2
                exact HA.out _ _ HO8.out HB.out
  · have hl : lsL p f = [] := if_pos hv
    have he : lsE p f = validV p := if_pos hv
    have htr : trA p = 0 := if_neg hv
    rw [hl, he] at HA
    rw [htr] at cv
    clear hl he htr
    generalize validV p = ev at *
    go_enter Tryd.func13, Tryd.ntmps13
    go_wp2_with (first
      | (refine wpList_boxS rfl 28 _ rfl [.slice at' n ct, vr, .slice al p.locs.length cl, vi, vj] rfl ?_; intro W1 b1 F1 C1; have B1 := F_b F1; clear F1)
      | (refine wpList_loadW rfl 28 _ rfl rfl C1 _ Tryd.underlying28 rfl infoPg ?_)
      | (go_at_call 11; refine (cv _ B1).mono ?_; rintro e W2 ⟨rfl, B2⟩; replace B1 := Below.then B1 B2; clear B2))
    exact HA.out _ _ (own_nil _ _ _ _) B1
end Go.Proofs.YtdneaaegllpnlaaDoor

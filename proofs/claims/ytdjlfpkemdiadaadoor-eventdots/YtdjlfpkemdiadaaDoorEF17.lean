/- Co of the reference. -/
import Derived.Test.YtdjlfpkemdiadaaDoorEC17
namespace Go.Proofs.YtdjlfpkemdiadaaDoor
open Go.RowKit M
set_option linter.unusedSimpArgs false
set_option linter.unusedVariables false

/-- Orders of writes, each list from its head. -/
def odA (n : Nat) : List (List Int) → (Nat → Nat) → Nat → Nat
  | [], F => F
  | l :: ls, F => odA n ls (coA n F 0 l).1
theorem odA_same (n : Nat) : ∀ (ls : List (List Int)) (F : Nat → Nat), odA n ls F = odF n ls F
  | [], F => rfl
  | l :: ls, F => by
    show odA n ls _ = odF n ls _
    rw [show (coB n F l).1 = (coA n F 0 l).1 from funext (co_same n F l)]
    exact odA_same n ls _
theorem odA_snoc (n : Nat) (l : List Int) : ∀ (ls : List (List Int)) (F : Nat → Nat), odA n (ls ++ [l]) F = (coA n (odA n ls F) 0 l).1
  | [], F => rfl
  | l' :: ls, F => odA_snoc n l ls _
theorem coA_snoc (n : Nat) (x : Int) : ∀ (l : List Int) (F : Nat → Nat) (s : Nat), coA n F s (l ++ [x]) = coA n (coA n F s l).1 (coA n F s l).2 [x]
  | [], F, s => rfl
  | y :: l, F, s => by
    show coA n F s (y :: (l ++ [x])) = _
    by_cases h : 0 ≤ y ∧ y < n
    · rw [show coA n F s (y :: (l ++ [x])) = coA n (fun a => if a < n ∧ s.testBit a = true then F a ||| 2 ^ y.toNat else F a) (s ||| 2 ^ y.toNat) (l ++ [x]) from if_pos h, show coA n F s (y :: l) = coA n (fun a => if a < n ∧ s.testBit a = true then F a ||| 2 ^ y.toNat else F a) (s ||| 2 ^ y.toNat) l from if_pos h, coA_snoc n x l]
    · rw [show coA n F s (y :: (l ++ [x])) = coA n F s (l ++ [x]) from if_neg h, show coA n F s (y :: l) = coA n F s l from if_neg h, coA_snoc n x l]
theorem coA_one (n : Nat) (F : Nat → Nat) (s X : Nat) (h : X < n) : coA n F s [(X : Int)] = (fun a => if a < n ∧ s.testBit a = true then F a ||| 2 ^ X else F a, s ||| 2 ^ X) := by
  show (if _ then _ else _) = _
  rw [if_pos ⟨by omega, by omega⟩]; rfl
theorem coA_not (n : Nat) (F : Nat → Nat) (s : Nat) (x : Int) (h : ¬ (0 ≤ x ∧ x < n)) : coA n F s [x] = (F, s) := if_neg h
/-- Rows and places stay words. -/
theorem or_lt64 {a b : Nat} (ha : a < 18446744073709551616) (hb : b < 18446744073709551616) : a ||| b < 18446744073709551616 := Nat.or_lt_two_pow (n := 64) ha hb
theorem coA_lt (n : Nat) (hn : n ≤ 64) : ∀ (l : List Int) (F : Nat → Nat) (s : Nat), Wf F → s < 18446744073709551616 → Wf (coA n F s l).1 ∧ (coA n F s l).2 < 18446744073709551616
  | [], F, s, hF, hs => ⟨hF, hs⟩
  | x :: l, F, s, hF, hs => by
    by_cases h : 0 ≤ x ∧ x < n
    · rw [show coA n F s (x :: l) = coA n (fun a => if a < n ∧ s.testBit a = true then F a ||| 2 ^ x.toNat else F a) (s ||| 2 ^ x.toNat) l from if_pos h]
      have hp := pow_lt x.toNat (by omega)
      refine coA_lt n hn l _ _ (fun a => ?_) (or_lt64 hs hp)
      show (if _ then _ else _) < _
      split
      · exact or_lt64 (hF a) hp
      · exact hF a
    · rw [show coA n F s (x :: l) = coA n F s l from if_neg h]
      exact coA_lt n hn l F s hF hs
theorem odA_wf (n : Nat) (hn : n ≤ 64) : ∀ (ls : List (List Int)) (F : Nat → Nat), Wf F → Wf (odA n ls F)
  | [], F, h => h
  | l :: ls, F, h => odA_wf n hn ls _ (coA_lt n hn l F 0 h (by decide)).1
/-- One place of a list, row by row. -/
def coR (n s X k : Nat) (F : Nat → Nat) : Nat → Nat := fun a => if a < k ∧ s.testBit a = true then F a ||| 2 ^ X else F a
theorem coR_start (n s X : Nat) (F : Nat → Nat) (a : Nat) : coR n s X 0 F a = F a := if_neg (by omega)
theorem coR_at (n s X k : Nat) (F : Nat → Nat) : coR n s X k F k = F k := if_neg (by omega)
theorem coR_yes (n s X k : Nat) (F : Nat → Nat) (h : s.testBit k = true) (a : Nat) : upd (coR n s X k F) k (F k ||| 2 ^ X) a = coR n s X (k + 1) F a := by
  unfold upd coR
  by_cases e : a = k
  · subst e; rw [if_pos rfl, if_pos ⟨by omega, h⟩]
  · rw [if_neg e]
    by_cases h2 : a < k ∧ s.testBit a = true
    · rw [if_pos h2, if_pos ⟨by omega, h2.2⟩]
    · rw [if_neg h2, if_neg (fun h3 => h2 ⟨by omega, h3.2⟩)]
theorem coR_no (n s X k : Nat) (F : Nat → Nat) (h : s.testBit k = false) (a : Nat) : coR n s X k F a = coR n s X (k + 1) F a := by
  unfold coR
  by_cases h2 : a < k ∧ s.testBit a = true
  · rw [if_pos h2, if_pos ⟨by omega, h2.2⟩]
  · rw [if_neg h2, if_neg (fun h3 => h2 ⟨by
      have : a ≠ k := fun e => by subst e; rw [h] at h3; simp at h3
      omega, h3.2⟩)]
theorem wrapu_int (x : Int) (h0 : 0 ≤ x) (h : x < 18446744073709551616) : IntKind.u64.wrap x = x := by rw [IntKind.wrap_u64]; omega

set_option maxRecDepth 100000 in
set_option maxHeartbeats 8000000 in
theorem rco_any (cs : List Value) (ae ao : Option Addr) (ne ce no co : Nat) (od : List (List Int)) (w : World) (h0 : cs[0]? = some (.slice ae ne ce)) (h3 : cs[3]? = some (.slice ao no co))
    (hne : ne ≤ 9223372036854775807) (hno : od.length = no) (hfl : no ≤ 9223372036854775807) (hfi : ∀ l ∈ od, l.length ≤ 9223372036854775807) (hS : RowsV w (.slice ao no co) intE od) :
    Calls Tryd.prog 57 #[.agg cs.toArray] w fun e w' => e = .returned (relv (shN ne) (odF (shN ne) od void)) ∧ Below w.heap.size w w' := by
  rw [← odA_same]
  have ho := fun W => short_any ae ne ce W hne
  obtain ⟨a', c', e⟩ := knV_form ae ne ce
  rw [e] at ho
  clear e
  have hN64 := shN_le ne
  generalize shN ne = N at *
  have HS : Hid (RowsV w (.slice ao no co) intE od) := hS
  have HF : Hid (od.length = no) := hno
  have HI : Hid (∀ l ∈ od, l.length ≤ 9223372036854775807) := hfi
  have H3 : Hid (cs[3]? = some (.slice ao no co)) := h3
  clear hS hno h3 hfi
  have t1 : True := trivial
  go_enter Tryd.func57, Tryd.ntmps57
  go_wp2_with (first
    | (refine wpList_boxS rfl 51 _ rfl cs rfl ?_; intro W1 b1 F1 C1; have B1 := F_b F1; have hb1 : w.heap.size ≤ b1 := Nat.le_of_eq F1.at'.symm; clear F1)
    | (clear t1; refine wpList_allocR rfl rfl ?_; intro W2 b2 F2 r2; replace B1 := Below.then B1 (F_b F2); have hb2 : b1 < b2 := (by rw [F2.at']; exact C1.lt); replace C1 := C1.fresh F2; have y0 := (C1.cell 0).trans h0; clear F2)
    | (go_at_call 51; refine (ho _).mono ?_; rintro e w' ⟨rfl, hw'⟩; replace hw' := hw'.symm; subst hw')
    | (refine wpList_buildRN rfl _ rfl rfl ?_)
    | (refine wpList_allocR rfl rfl ?_; intro W4 b3 F4 r3; replace B1 := Below.then B1 (F_b F4); have hb3 : b2 < b3 := (by rw [F4.at']; exact r2.lt); replace r2 := r2.fresh F4; replace C1 := C1.fresh F4; clear F4 y0)
    | (refine wpList_storeR rfl _ _ rfl rfl rfl r3 ?_; intro W5 U5 q3; replace B1 := U5.trans B1 (by omega); replace r2 := r2.upd U5 (by omega); replace C1 := C1.upd U5 (by omega); clear U5 r3))
  clear ho h0
  go_loopw [5] (fun i wr => ∃ k : Nat, k ≤ no ∧ i = .int .i64 k ∧ IsR wr b3 N (odA N (od.take k) void) ∧ IsR wr b2 0 void ∧ IsS wr b1 51 cs ∧ Hid (Below w.heap.size w wr)) (fun i _ => no - (intOf i).toNat)
  case atStart => exact ⟨0, by omega, rfl, q3, r2, C1, B1⟩
  case round =>
    clear r2 q3 B1 C1
    obtain ⟨k, hk, rfl, q3, q2, C1, BB⟩ := hrel
    have y3 := (C1.cell 3).trans H3.out
    by_cases hlt : k < no
    · obtain ⟨l, hx⟩ : ∃ l, od[k]? = some l := ⟨_, List.getElem?_eq_getElem (by rw [HF.out]; omega)⟩
      have hll := HI.out l (List.mem_of_getElem? hx)
      obtain ⟨ba, oa, al, cl, ea, hba, ca0, hsl, _⟩ := HS.out.at k l hx
      have HX : Hid (odA N (od.take (k + 1)) void = (coA N (odA N (od.take k) void) 0 l).1) := by
        show _ = _
        rw [take_at hx, odA_snoc]
      have HW : Hid (Wf (odA N (od.take k) void)) := odA_wf N hN64 _ _ (fun i => by simp [void])
      subst ea
      have HSL : Hid (Seg w al (l.flatMap intE)) := hsl
      have HCA : Hid (w.cell? ⟨ba, oa + k, none⟩ = some (.slice al l.length cl) ∧ ba < w.heap.size) := ⟨ca0, hba⟩
      clear hx ca0 hsl hba
      generalize odA N (od.take k) void = F at *
      have hkno : (k : Int) < (no : Int) := by omega
      obtain ⟨n, hn⟩ : ∃ n, l.length = n := ⟨_, rfl⟩
      rw [hn] at hll HCA
      have HN : Hid (l.length = n) := hn
      clear hn
      have ca := (BB.out.cell (p := ⟨ba, oa + k, none⟩) HCA.out.2).trans HCA.out.1
      go_wp2
      clear ca
      go_loopw [6, 7] (fun sv j wr => ∃ (i s : Nat), i ≤ n ∧ j = .int .i64 i ∧ sv = .int .u64 (s : Int) ∧ Hid ((coA N F 0 (l.take i)).2 = s ∧ s < 18446744073709551616) ∧ IsR wr b3 N (coA N F 0 (l.take i)).1 ∧ IsR wr b2 0 void ∧ IsS wr b1 51 cs ∧ Hid (Below w.heap.size w wr)) (fun _ j _ => n - (intOf j).toNat)
      case atStart => exact ⟨0, 0, by omega, rfl, rfl, ⟨rfl, by decide⟩, q3, q2, C1, BB⟩
      case round =>
        clear q3 q2 C1 BB y3
        obtain ⟨i, s, hi, rfl, rfl, HC, q3, q2, C1, BB⟩ := hrel
        have y3 := (C1.cell 3).trans H3.out
        have ca := (BB.out.cell (p := ⟨ba, oa + k, none⟩) HCA.out.2).trans HCA.out.1
        by_cases hin : i < n
        · obtain ⟨x, hx⟩ : ∃ x, l[i]? = some x := ⟨_, List.getElem?_eq_getElem (by rw [HN.out]; omega)⟩
          obtain ⟨bi, oi, ei, hbi, ci0⟩ := seg_int HSL.out hx
          subst ei
          have ci := (BB.out.cell (p := ⟨bi, oi + i, none⟩) hbi).trans ci0
          have HTK : Hid (coA N F 0 (l.take (i + 1)) = coA N (coA N F 0 (l.take i)).1 s [x]) := by
            show _ = _
            rw [take_at hx, coA_snoc, HC.out.1]
          have HWF := (coA_lt N hN64 (l.take i) F 0 HW.out (by decide)).1
          have HWG : Hid (Wf (coA N F 0 (l.take i)).1) := HWF
          have HS64 : Hid (s < 18446744073709551616) := HC.out.2
          clear HWF ci0 hx HC
          generalize (coA N F 0 (l.take i)).1 = G at *
          have hini : (i : Int) < (n : Int) := by omega
          by_cases hp : 0 ≤ x ∧ x < N
          · obtain ⟨X, rfl⟩ : ∃ X : Nat, x = (X : Int) := ⟨x.toNat, by omega⟩
            have hXN : X < N := by omega
            have hXNi : (X : Int) < (N : Int) := by omega
            have hX64 : (X : Int) < 64 := by omega
            have hX64n : X < 64 := by omega
            have hw := wrap_pow X hX64n
            have HO : Hid (coA N F 0 (l.take (i + 1)) = (fun a => if a < N ∧ s.testBit a = true then G a ||| 2 ^ X else G a, s ||| 2 ^ X)) := by
              show _ = _
              rw [HTK.out, coA_one N G s X hXN]
            have hor := or_pow s X HS64.out hX64n
            have HS2 : Hid (s ||| 2 ^ X < 18446744073709551616) := or_lt64 HS64.out (pow_lt X hX64n)
            clear HTK hp
            go_wp2
            clear y3 ca ci
            go_loopw [9] (fun j wr => ∃ a : Nat, a ≤ N ∧ j = .int .i64 a ∧ IsR wr b3 N (coR N s X a G) ∧ IsR wr b2 0 void ∧ IsS wr b1 51 cs ∧ Hid (Below w.heap.size w wr)) (fun j _ => N - (intOf j).toNat)
            case atStart => exact ⟨0, by omega, rfl, q3.congr (fun a _ => (coR_start N s X G a).symm), q2, C1, BB⟩
            case round =>
              clear q3 q2 C1 BB
              obtain ⟨a, ha, rfl, q3, q2, C1, BB⟩ := hrel
              by_cases haN : a < N
              · have haNi : (a : Int) < (N : Int) := by omega
                have ha64 : (a : Int) < 64 := by omega
                have hsb := shr_bits s a (by omega) HS64.out
                rw [bit_of] at hsb
                cases hb : s.testBit a with
                | true =>
                  rw [hb] at hsb
                  simp only [if_true] at hsb
                  have hrow := q3.row a (by omega)
                  rw [coR_at] at hrow
                  have hfz := q3.frozen (1 + a)
                  have horz := or_pow (G a) X (HWG.out a) hX64n
                  have U := Upd.setCell wr b3 (1 + a) (.int .u64 ((G a ||| 2 ^ X : Nat) : Int))
                  have HQ : Hid (IsR (wr.setCell ⟨b3, 1 + a, none⟩ (.int .u64 ((G a ||| 2 ^ X : Nat) : Int))) b3 N (coR N s X (a + 1) G) ∧ IsR (wr.setCell ⟨b3, 1 + a, none⟩ (.int .u64 ((G a ||| 2 ^ X : Nat) : Int))) b2 0 void ∧ IsS (wr.setCell ⟨b3, 1 + a, none⟩ (.int .u64 ((G a ||| 2 ^ X : Nat) : Int))) b1 51 cs ∧ Below w.heap.size w (wr.setCell ⟨b3, 1 + a, none⟩ (.int .u64 ((G a ||| 2 ^ X : Nat) : Int)))) :=
                    ⟨(q3.set a _ (by omega)).congr (fun j _ => coR_yes N s X a G hb j), q2.upd U (by omega), C1.upd U (by omega), U.trans BB.out (by omega)⟩
                  clear U q3 q2 BB C1 hb hor
                  generalize G a ||| 2 ^ X = z at *
                  generalize G a = z0 at *
                  go_wp2
                  go_roundw
                  case rel => exact ⟨a + 1, by omega, by simp, HQ.out.1, HQ.out.2.1, HQ.out.2.2.1, HQ.out.2.2.2⟩
                  case measure => simp [intOf]; omega
                | false =>
                  rw [hb] at hsb
                  simp only [Bool.false_eq_true, if_false] at hsb
                  have HQ : Hid (IsR wr b3 N (coR N s X (a + 1) G)) := q3.congr (fun j _ => coR_no N s X a G hb j)
                  clear hb q3 hor
                  go_wp2
                  go_roundw
                  case rel => exact ⟨a + 1, by omega, by simp, HQ.out, q2, C1, BB⟩
                  case measure => simp [intOf]; omega
              · obtain rfl : a = N := by omega
                have HQ : Hid (IsR wr b3 a (coA a F 0 (l.take (i + 1))).1 ∧ (coA a F 0 (l.take (i + 1))).2 = s ||| 2 ^ X) := by
                  rw [HO.out]; exact ⟨q3, rfl⟩
                clear q3 HO
                generalize s ||| 2 ^ X = s2 at *
                go_wp2
                go_roundw
                case rel => exact ⟨i + 1, s2, by omega, by simp, rfl, ⟨HQ.out.2, HS2.out⟩, HQ.out.1, q2, C1, BB⟩
                case measure => simp [intOf]; omega
          · have HQ : Hid (IsR wr b3 N (coA N F 0 (l.take (i + 1))).1 ∧ (coA N F 0 (l.take (i + 1))).2 = s) := by
              rw [HTK.out, coA_not N G s x hp]; exact ⟨q3, rfl⟩
            clear q3 HTK
            rcases (show x < 0 ∨ (0 ≤ x ∧ (N : Int) ≤ x) by omega) with hx0 | ⟨hx0, hx1⟩
            all_goals
              clear hp
              go_wp2
              go_roundw
              case rel => exact ⟨i + 1, s, by omega, by simp, rfl, ⟨HQ.out.2, HS64.out⟩, HQ.out.1, q2, C1, BB⟩
              case measure => simp [intOf]; omega
        · obtain rfl : i = n := by omega
          have HQ : Hid (IsR wr b3 N (odA N (od.take (k + 1)) void)) := by
            rw [HX.out]
            have hq := q3
            rw [List.take_of_length_le (Nat.le_of_eq HN.out)] at hq
            exact hq
          clear q3 HC
          go_wp2
          go_roundw
          case rel => exact ⟨k + 1, by omega, by simp, HQ.out, q2, C1, BB⟩
          case measure => simp [intOf]; omega
    · obtain rfl : k = no := by omega
      rw [List.take_of_length_le (Nat.le_of_eq HF.out)] at q3
      go_wp2_with (first
        | (refine wpList_loadR rfl _ rfl rfl q3 ?_)
        | (refine wpList_storeR rfl _ _ rfl rfl rfl q2 ?_; intro W4 U4 r4))
      refine ret_R rfl rfl rfl r4 ⟨rfl, U4.trans BB.out (by omega)⟩
end Go.Proofs.YtdjlfpkemdiadaaDoor

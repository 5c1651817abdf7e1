/- pairs, by three questions. -/
import Derived.Test.YtdjlfpkemdiadaaDoorFB17
namespace Go.Proofs.YtdjlfpkemdiadaaDoor
open Go.RowKit M
set_option linter.unusedSimpArgs false
set_option linter.unusedVariables false

theorem kn_kn {w : World} {a' : Option Addr} {n c' : Nat} (h : n ≤ 64) : Calls Tryd.prog 35 #[.slice a' n c'] w fun e w' => e = .returned (relv n void) ∧ Below w.heap.size w w' := by
  have := over_any a' n c' w (by omega)
  rwa [show shN n = n from if_pos h] at this

set_option maxRecDepth 100000 in
set_option maxHeartbeats 8000000 in
theorem pairsO_any (l : List EV) (a : Option Addr) (c : Nat) (w : World) (hl : l.length ≤ 9223372036854775807) (hS : Seg w a (l.flatMap evL)) :
    Calls Tryd.prog 32 #[.slice a l.length c, .func (.func 33) #[] #[]] w fun e w' => e = .returned (relv (shL l).length (prF (shL l).length (fun a b => oneB (evA (shL l) a) (evA (shL l) b)))) ∧ Below w.heap.size w w' := by
  have hkn := fun W => known_any a l.length c W hl
  obtain ⟨a', c', ek, sk⟩ := kn_seg hS c
  rw [ek] at hkn
  have hn64 := shL_le l
  clear ek hS
  have hC : Hid (∀ W e1 e2, Calls Tryd.prog 33 #[.agg (evL e1).toArray, .agg (evL e2).toArray] W fun r w' => r = .returned (.bool (oneB e1 e2)) ∧ Below W.heap.size W w') := fun W e1 e2 => one_any e1 e2 W
  generalize shL l = L at *
  obtain ⟨n, hn⟩ : ∃ n, L.length = n := ⟨_, rfl⟩
  rw [hn] at hkn hn64 ⊢
  have hov := fun W => kn_kn (w := W) (a' := a') (c' := c') hn64
  have HN : Hid (L.length = n) := hn
  have HS : Hid (Seg w a' (L.flatMap evL)) := sk
  clear hn sk hl
  have t1 : True := trivial
  go_enter Tryd.func32, Tryd.ntmps32
  go_wp2_with (first
    | (clear t1; refine wpList_allocR rfl rfl ?_; intro W2 b4 F2 r4; have B1 := F_b F2; have hb4 : w.heap.size ≤ b4 := Nat.le_of_eq F2.at'.symm; clear F2)
    | (go_at_call 44; refine (hkn _).mono ?_; rintro e w' ⟨rfl, hw'⟩; replace hw' := hw'.symm; subst hw')
    | (go_at_call 35; refine (hov _).mono ?_; rintro e W3 ⟨rfl, hw3⟩; replace B1 := Below.then B1 hw3; have hl2 := r4.lt; have hz3 := hw3.size; replace r4 := r4.grown hw3; clear hw3)
    | (refine wpList_allocR rfl rfl ?_; intro W4 b5 F4 r5; replace B1 := Below.then B1 (F_b F4); have hb5 : b4 < b5 := (by rw [F4.at']; omega); replace r4 := r4.fresh F4; clear F4)
    | (refine wpList_storeR rfl _ _ rfl rfl rfl r5 ?_; intro W5 U5 q5; replace B1 := U5.trans B1 (by omega); replace r4 := r4.upd U5 (by omega); clear U5 r5))
  clear hkn hov hl2 hz3
  go_loopw [16] (fun iv wr => ∃ i : Nat, i ≤ n ∧ iv = .int .i64 (i : Int) ∧ IsR wr b5 n (parF n (fun a b => oneB (evA L a) (evA L b)) i 0) ∧ IsR wr b4 0 void ∧ Hid (Below w.heap.size w wr)) (fun iv _ => n - (intOf iv).toNat)
  case atStart => exact ⟨0, by omega, rfl, q5.congr (fun j _ => (parF_start n _ j).symm), r4, B1⟩
  case round =>
    clear q5 r4 B1
    obtain ⟨i, hi, rfl, q5, q4, HB⟩ := hrel
    by_cases hlt : i < n
    · have hki : (i : Int) < n := by omega
      have hk64 : (i : Int) < 64 := by omega
      have hl5 := q5.lt
      have hl4 := q4.lt
      obtain ⟨e1, he1⟩ : ∃ q, L[i]? = some q := ⟨_, List.getElem?_eq_getElem (by rw [HN.out]; exact hlt)⟩
      obtain ⟨bl, ol, ea, hbl0, rg0⟩ := ev_range HS.out he1
      subst ea
      have rg := range_grow rg0 hbl0 HB.out
      have HE1 : Hid (evA L i = e1) := evA_some he1
      clear rg0 he1
      have t3 : True := trivial
      go_wp2_with (first
        | (refine wpList_load_mid rfl 46 _ rfl bl (ol + i * 5) rfl (evL e1) _ rg Tryd.underlying46 rfl infoEv ?_)
        | (clear t3; refine wpList_allocS rfl 46 rfl (evL ev0) zeroEv ?_; intro W4 b7 F4 K4; have R4 := Below.then HB.out (F_b F4); have hc7 : wr.heap.size ≤ b7 := Nat.le_of_eq F4.at'.symm; replace q5 := q5.fresh F4; replace q4 := q4.fresh F4; clear F4)
        | (refine wpList_storeW rfl 46 _ _ rfl rfl (evL e1) rfl K4 rfl infoEv (ev_oneC _) ?_; intro W5 U5 C7; have R5 := U5.trans R4 (by have := HB.out.size; omega); replace q5 := q5.upd U5 (by omega); replace q4 := q4.upd U5 (by omega); clear K4 U5 R4))
      have hb57 : b5 ≠ b7 := by omega
      clear hc7 rg hl5 hl4 HB
      go_loopw [23] (fun jv wr => ∃ k : Nat, k ≤ n ∧ jv = .int .i64 (k : Int) ∧ IsR wr b5 n (parF n (fun a b => oneB (evA L a) (evA L b)) i k) ∧ IsR wr b4 0 void ∧ IsS wr b7 46 (evL e1) ∧ Hid (Below w.heap.size w wr)) (fun jv _ => n - (intOf jv).toNat)
      case atStart => exact ⟨0, by omega, rfl, q5, q4, C7, R5⟩
      case round =>
        clear q5 q4 C7 R5
        obtain ⟨k, hk, rfl, q5, q4, C7, HB⟩ := hrel
        by_cases hlk : k < n
        · have hkki : (k : Int) < n := by omega
          have hkk64 : (k : Int) < 64 := by omega
          have hl5 := q5.lt
          have hl4 := q4.lt
          have hl7 := C7.lt
          have hbw := HB.out.size
          obtain ⟨e2, he2⟩ : ∃ q, L[k]? = some q := ⟨_, List.getElem?_eq_getElem (by rw [HN.out]; exact hlk)⟩
          obtain ⟨bl2, ol2, ea, hbl2, rg0⟩ := ev_range HS.out he2
          cases ea
          have rg2 := range_grow rg0 hbl2 HB.out
          have hq : (fun a b => oneB (evA L a) (evA L b)) i k = oneB e1 e2 := by show oneB (evA L i) (evA L k) = _; rw [HE1.out, evA_some he2]
          have HQq : Hid ((fun a b => oneB (evA L a) (evA L b)) i k = oneB e1 e2) := hq
          have hC2 := fun W => hC.out W e1 e2
          clear rg0 he2 hq
          have t3 : True := trivial
          have t4 : True := trivial
          cases hb : oneB e1 e2 with
          | true =>
            rw [hb] at hC2 HQq
            clear hb
            go_wp2_with (first
            | (refine wpList_load_mid rfl 46 _ rfl bl (ol + k * 5) rfl (evL e2) _ rg2 Tryd.underlying46 rfl infoEv ?_)
            | (clear t3; refine wpList_allocS rfl 46 rfl (evL ev0) zeroEv ?_; intro W4 b9 F4 K4; have R4 := Below.then HB.out (F_b F4); have hc4 : wr.heap.size ≤ b9 := Nat.le_of_eq F4.at'.symm; replace q5 := q5.fresh F4; replace q4 := q4.fresh F4; replace C7 := C7.fresh F4; clear F4)
            | (refine wpList_storeW rfl 46 _ _ rfl rfl (evL e2) rfl K4 rfl infoEv (ev_oneC _) ?_; intro W5 U5 K5; have R5 := U5.trans R4 (by omega); replace q5 := q5.upd U5 (by omega); replace q4 := q4.upd U5 (by omega); replace C7 := C7.upd U5 (by omega); clear K4 U5 R4)
            | (clear t4; refine wpList_loadW rfl 46 _ rfl rfl C7 _ Tryd.underlying46 rfl infoEv ?_)
            | (refine wpList_loadW rfl 46 _ rfl rfl K5 _ Tryd.underlying46 rfl infoEv ?_)
            | (go_at_call 33; refine (hC2 _).mono ?_; rintro r W6 ⟨rfl, B6⟩; have R6 := Below.then R5 B6; replace q5 := q5.grown B6; replace q4 := q4.grown B6; replace C7 := C7.grown B6; clear B6 R5 K5))
            have hrow := q5.row i (by omega)
            rw [parF_at] at hrow
            have hfz := q5.frozen (1 + i)
            have hml := maskN_lt64 ((fun a b => oneB (evA L a) (evA L b)) i) (n := k) (by omega)
            have hw := wrap_pow k (by omega)
            have hor := or_pow (maskN k ((fun a b => oneB (evA L a) (evA L b)) i)) k hml (by omega)
            have U := Upd.setCell W6 b5 (1 + i) (.int .u64 ((maskN k ((fun a b => oneB (evA L a) (evA L b)) i) ||| 2 ^ k : Nat) : Int))
            have HQ : Hid (IsR (W6.setCell ⟨b5, 1 + i, none⟩ (.int .u64 ((maskN k ((fun a b => oneB (evA L a) (evA L b)) i) ||| 2 ^ k : Nat) : Int))) b5 n (parF n (fun a b => oneB (evA L a) (evA L b)) i (k + 1)) ∧ IsR (W6.setCell ⟨b5, 1 + i, none⟩ (.int .u64 ((maskN k ((fun a b => oneB (evA L a) (evA L b)) i) ||| 2 ^ k : Nat) : Int))) b4 0 void ∧ IsS (W6.setCell ⟨b5, 1 + i, none⟩ (.int .u64 ((maskN k ((fun a b => oneB (evA L a) (evA L b)) i) ||| 2 ^ k : Nat) : Int))) b7 46 (evL e1) ∧ Below w.heap.size w (W6.setCell ⟨b5, 1 + i, none⟩ (.int .u64 ((maskN k ((fun a b => oneB (evA L a) (evA L b)) i) ||| 2 ^ k : Nat) : Int)))) :=
              ⟨(q5.set i _ (by omega)).congr (fun j _ => by have := parF_yes n (fun a b => oneB (evA L a) (evA L b)) i k j HQq.out; rw [parF_at] at this; exact this), q4.upd U (by omega), C7.upd U (by omega), U.trans R6 (by omega)⟩
            clear U q5 q4 C7 R6 HB hml HQq
            generalize maskN k ((fun a b => oneB (evA L a) (evA L b)) i) ||| 2 ^ k = z at *
            generalize maskN k ((fun a b => oneB (evA L a) (evA L b)) i) = z0 at *
            go_region
            go_wp2
            go_roundw
            case rel => exact ⟨k + 1, by omega, by simp, HQ.out.1.drew, HQ.out.2.1.drew, HQ.out.2.2.1, HQ.out.2.2.2.drew⟩
            case measure => simp [intOf]; omega
          | false =>
            rw [hb] at hC2 HQq
            clear hb
            go_wp2_with (first
            | (refine wpList_load_mid rfl 46 _ rfl bl (ol + k * 5) rfl (evL e2) _ rg2 Tryd.underlying46 rfl infoEv ?_)
            | (clear t3; refine wpList_allocS rfl 46 rfl (evL ev0) zeroEv ?_; intro W4 b9 F4 K4; have R4 := Below.then HB.out (F_b F4); have hc4 : wr.heap.size ≤ b9 := Nat.le_of_eq F4.at'.symm; replace q5 := q5.fresh F4; replace q4 := q4.fresh F4; replace C7 := C7.fresh F4; clear F4)
            | (refine wpList_storeW rfl 46 _ _ rfl rfl (evL e2) rfl K4 rfl infoEv (ev_oneC _) ?_; intro W5 U5 K5; have R5 := U5.trans R4 (by omega); replace q5 := q5.upd U5 (by omega); replace q4 := q4.upd U5 (by omega); replace C7 := C7.upd U5 (by omega); clear K4 U5 R4)
            | (clear t4; refine wpList_loadW rfl 46 _ rfl rfl C7 _ Tryd.underlying46 rfl infoEv ?_)
            | (refine wpList_loadW rfl 46 _ rfl rfl K5 _ Tryd.underlying46 rfl infoEv ?_)
            | (go_at_call 33; refine (hC2 _).mono ?_; rintro r W6 ⟨rfl, B6⟩; have R6 := Below.then R5 B6; replace q5 := q5.grown B6; replace q4 := q4.grown B6; replace C7 := C7.grown B6; clear B6 R5 K5))
            have HQ : Hid (IsR W6 b5 n (parF n (fun a b => oneB (evA L a) (evA L b)) i (k + 1))) := q5.congr (fun j _ => parF_no n (fun a b => oneB (evA L a) (evA L b)) i k j HQq.out)
            clear q5 HQq HB
            go_roundw
            case rel => exact ⟨k + 1, by omega, by simp, HQ.out, q4, C7, R6⟩
            case measure => simp [intOf]; omega
        · obtain rfl : k = n := by omega
          have HQ : Hid (IsR wr b5 k (parF k (fun a b => oneB (evA L a) (evA L b)) (i + 1) 0)) := q5.congr (fun j _ => parF_next k _ i j)
          clear q5
          go_wp2
          go_roundw
          case rel => exact ⟨i + 1, by omega, by simp, HQ.out, q4, HB⟩
          case measure => simp [intOf]; omega
    · obtain rfl : i = n := by omega
      have HQ := q5.congr (fun j _ => parF_end i (fun a b => oneB (evA L a) (evA L b)) j)
      clear q5
      go_wp2_with (first
        | (refine wpList_loadR rfl _ rfl rfl HQ ?_)
        | (refine wpList_storeR rfl _ _ rfl rfl rfl q4 ?_; intro W4 U4 r4))
      refine ret_R rfl rfl rfl r4 ⟨rfl, U4.trans HB.out (by omega)⟩

set_option maxRecDepth 100000 in
set_option maxHeartbeats 8000000 in
theorem pairsR_any (l : List EV) (a : Option Addr) (c : Nat) (w : World) (hl : l.length ≤ 9223372036854775807) (hS : Seg w a (l.flatMap evL)) :
    Calls Tryd.prog 32 #[.slice a l.length c, .func (.func 59) #[] #[]] w fun e w' => e = .returned (relv (shL l).length (prF (shL l).length (fun a b => rmwB (evA (shL l) a) (evA (shL l) b)))) ∧ Below w.heap.size w w' := by
  have hkn := fun W => known_any a l.length c W hl
  obtain ⟨a', c', ek, sk⟩ := kn_seg hS c
  rw [ek] at hkn
  have hn64 := shL_le l
  clear ek hS
  have hC : Hid (∀ W e1 e2, Calls Tryd.prog 59 #[.agg (evL e1).toArray, .agg (evL e2).toArray] W fun r w' => r = .returned (.bool (rmwB e1 e2)) ∧ Below W.heap.size W w') := fun W e1 e2 => rmw1_any e1 e2 W
  generalize shL l = L at *
  obtain ⟨n, hn⟩ : ∃ n, L.length = n := ⟨_, rfl⟩
  rw [hn] at hkn hn64 ⊢
  have hov := fun W => kn_kn (w := W) (a' := a') (c' := c') hn64
  have HN : Hid (L.length = n) := hn
  have HS : Hid (Seg w a' (L.flatMap evL)) := sk
  clear hn sk hl
  have t1 : True := trivial
  go_enter Tryd.func32, Tryd.ntmps32
  go_wp2_with (first
    | (clear t1; refine wpList_allocR rfl rfl ?_; intro W2 b4 F2 r4; have B1 := F_b F2; have hb4 : w.heap.size ≤ b4 := Nat.le_of_eq F2.at'.symm; clear F2)
    | (go_at_call 44; refine (hkn _).mono ?_; rintro e w' ⟨rfl, hw'⟩; replace hw' := hw'.symm; subst hw')
    | (go_at_call 35; refine (hov _).mono ?_; rintro e W3 ⟨rfl, hw3⟩; replace B1 := Below.then B1 hw3; have hl2 := r4.lt; have hz3 := hw3.size; replace r4 := r4.grown hw3; clear hw3)
    | (refine wpList_allocR rfl rfl ?_; intro W4 b5 F4 r5; replace B1 := Below.then B1 (F_b F4); have hb5 : b4 < b5 := (by rw [F4.at']; omega); replace r4 := r4.fresh F4; clear F4)
    | (refine wpList_storeR rfl _ _ rfl rfl rfl r5 ?_; intro W5 U5 q5; replace B1 := U5.trans B1 (by omega); replace r4 := r4.upd U5 (by omega); clear U5 r5))
  clear hkn hov hl2 hz3
  go_loopw [16] (fun iv wr => ∃ i : Nat, i ≤ n ∧ iv = .int .i64 (i : Int) ∧ IsR wr b5 n (parF n (fun a b => rmwB (evA L a) (evA L b)) i 0) ∧ IsR wr b4 0 void ∧ Hid (Below w.heap.size w wr)) (fun iv _ => n - (intOf iv).toNat)
  case atStart => exact ⟨0, by omega, rfl, q5.congr (fun j _ => (parF_start n _ j).symm), r4, B1⟩
  case round =>
    clear q5 r4 B1
    obtain ⟨i, hi, rfl, q5, q4, HB⟩ := hrel
    by_cases hlt : i < n
    · have hki : (i : Int) < n := by omega
      have hk64 : (i : Int) < 64 := by omega
      have hl5 := q5.lt
      have hl4 := q4.lt
      obtain ⟨e1, he1⟩ : ∃ q, L[i]? = some q := ⟨_, List.getElem?_eq_getElem (by rw [HN.out]; exact hlt)⟩
      obtain ⟨bl, ol, ea, hbl0, rg0⟩ := ev_range HS.out he1
      subst ea
      have rg := range_grow rg0 hbl0 HB.out
      have HE1 : Hid (evA L i = e1) := evA_some he1
      clear rg0 he1
      have t3 : True := trivial
      go_wp2_with (first
        | (refine wpList_load_mid rfl 46 _ rfl bl (ol + i * 5) rfl (evL e1) _ rg Tryd.underlying46 rfl infoEv ?_)
        | (clear t3; refine wpList_allocS rfl 46 rfl (evL ev0) zeroEv ?_; intro W4 b7 F4 K4; have R4 := Below.then HB.out (F_b F4); have hc7 : wr.heap.size ≤ b7 := Nat.le_of_eq F4.at'.symm; replace q5 := q5.fresh F4; replace q4 := q4.fresh F4; clear F4)
        | (refine wpList_storeW rfl 46 _ _ rfl rfl (evL e1) rfl K4 rfl infoEv (ev_oneC _) ?_; intro W5 U5 C7; have R5 := U5.trans R4 (by have := HB.out.size; omega); replace q5 := q5.upd U5 (by omega); replace q4 := q4.upd U5 (by omega); clear K4 U5 R4))
      have hb57 : b5 ≠ b7 := by omega
      clear hc7 rg hl5 hl4 HB
      go_loopw [23] (fun jv wr => ∃ k : Nat, k ≤ n ∧ jv = .int .i64 (k : Int) ∧ IsR wr b5 n (parF n (fun a b => rmwB (evA L a) (evA L b)) i k) ∧ IsR wr b4 0 void ∧ IsS wr b7 46 (evL e1) ∧ Hid (Below w.heap.size w wr)) (fun jv _ => n - (intOf jv).toNat)
      case atStart => exact ⟨0, by omega, rfl, q5, q4, C7, R5⟩
      case round =>
        clear q5 q4 C7 R5
        obtain ⟨k, hk, rfl, q5, q4, C7, HB⟩ := hrel
        by_cases hlk : k < n
        · have hkki : (k : Int) < n := by omega
          have hkk64 : (k : Int) < 64 := by omega
          have hl5 := q5.lt
          have hl4 := q4.lt
          have hl7 := C7.lt
          have hbw := HB.out.size
          obtain ⟨e2, he2⟩ : ∃ q, L[k]? = some q := ⟨_, List.getElem?_eq_getElem (by rw [HN.out]; exact hlk)⟩
          obtain ⟨bl2, ol2, ea, hbl2, rg0⟩ := ev_range HS.out he2
          cases ea
          have rg2 := range_grow rg0 hbl2 HB.out
          have hq : (fun a b => rmwB (evA L a) (evA L b)) i k = rmwB e1 e2 := by show rmwB (evA L i) (evA L k) = _; rw [HE1.out, evA_some he2]
          have HQq : Hid ((fun a b => rmwB (evA L a) (evA L b)) i k = rmwB e1 e2) := hq
          have hC2 := fun W => hC.out W e1 e2
          clear rg0 he2 hq
          have t3 : True := trivial
          have t4 : True := trivial
          cases hb : rmwB e1 e2 with
          | true =>
            rw [hb] at hC2 HQq
            clear hb
            go_wp2_with (first
            | (refine wpList_load_mid rfl 46 _ rfl bl (ol + k * 5) rfl (evL e2) _ rg2 Tryd.underlying46 rfl infoEv ?_)
            | (clear t3; refine wpList_allocS rfl 46 rfl (evL ev0) zeroEv ?_; intro W4 b9 F4 K4; have R4 := Below.then HB.out (F_b F4); have hc4 : wr.heap.size ≤ b9 := Nat.le_of_eq F4.at'.symm; replace q5 := q5.fresh F4; replace q4 := q4.fresh F4; replace C7 := C7.fresh F4; clear F4)
            | (refine wpList_storeW rfl 46 _ _ rfl rfl (evL e2) rfl K4 rfl infoEv (ev_oneC _) ?_; intro W5 U5 K5; have R5 := U5.trans R4 (by omega); replace q5 := q5.upd U5 (by omega); replace q4 := q4.upd U5 (by omega); replace C7 := C7.upd U5 (by omega); clear K4 U5 R4)
            | (clear t4; refine wpList_loadW rfl 46 _ rfl rfl C7 _ Tryd.underlying46 rfl infoEv ?_)
            | (refine wpList_loadW rfl 46 _ rfl rfl K5 _ Tryd.underlying46 rfl infoEv ?_)
            | (go_at_call 59; refine (hC2 _).mono ?_; rintro r W6 ⟨rfl, B6⟩; have R6 := Below.then R5 B6; replace q5 := q5.grown B6; replace q4 := q4.grown B6; replace C7 := C7.grown B6; clear B6 R5 K5))
            have hrow := q5.row i (by omega)
            rw [parF_at] at hrow
            have hfz := q5.frozen (1 + i)
            have hml := maskN_lt64 ((fun a b => rmwB (evA L a) (evA L b)) i) (n := k) (by omega)
            have hw := wrap_pow k (by omega)
            have hor := or_pow (maskN k ((fun a b => rmwB (evA L a) (evA L b)) i)) k hml (by omega)
            have U := Upd.setCell W6 b5 (1 + i) (.int .u64 ((maskN k ((fun a b => rmwB (evA L a) (evA L b)) i) ||| 2 ^ k : Nat) : Int))
            have HQ : Hid (IsR (W6.setCell ⟨b5, 1 + i, none⟩ (.int .u64 ((maskN k ((fun a b => rmwB (evA L a) (evA L b)) i) ||| 2 ^ k : Nat) : Int))) b5 n (parF n (fun a b => rmwB (evA L a) (evA L b)) i (k + 1)) ∧ IsR (W6.setCell ⟨b5, 1 + i, none⟩ (.int .u64 ((maskN k ((fun a b => rmwB (evA L a) (evA L b)) i) ||| 2 ^ k : Nat) : Int))) b4 0 void ∧ IsS (W6.setCell ⟨b5, 1 + i, none⟩ (.int .u64 ((maskN k ((fun a b => rmwB (evA L a) (evA L b)) i) ||| 2 ^ k : Nat) : Int))) b7 46 (evL e1) ∧ Below w.heap.size w (W6.setCell ⟨b5, 1 + i, none⟩ (.int .u64 ((maskN k ((fun a b => rmwB (evA L a) (evA L b)) i) ||| 2 ^ k : Nat) : Int)))) :=
              ⟨(q5.set i _ (by omega)).congr (fun j _ => by have := parF_yes n (fun a b => rmwB (evA L a) (evA L b)) i k j HQq.out; rw [parF_at] at this; exact this), q4.upd U (by omega), C7.upd U (by omega), U.trans R6 (by omega)⟩
            clear U q5 q4 C7 R6 HB hml HQq
            generalize maskN k ((fun a b => rmwB (evA L a) (evA L b)) i) ||| 2 ^ k = z at *
            generalize maskN k ((fun a b => rmwB (evA L a) (evA L b)) i) = z0 at *
            go_region
            go_wp2
            go_roundw
            case rel => exact ⟨k + 1, by omega, by simp, HQ.out.1.drew, HQ.out.2.1.drew, HQ.out.2.2.1, HQ.out.2.2.2.drew⟩
            case measure => simp [intOf]; omega
          | false =>
            rw [hb] at hC2 HQq
            clear hb
            go_wp2_with (first
            | (refine wpList_load_mid rfl 46 _ rfl bl (ol + k * 5) rfl (evL e2) _ rg2 Tryd.underlying46 rfl infoEv ?_)
            | (clear t3; refine wpList_allocS rfl 46 rfl (evL ev0) zeroEv ?_; intro W4 b9 F4 K4; have R4 := Below.then HB.out (F_b F4); have hc4 : wr.heap.size ≤ b9 := Nat.le_of_eq F4.at'.symm; replace q5 := q5.fresh F4; replace q4 := q4.fresh F4; replace C7 := C7.fresh F4; clear F4)
            | (refine wpList_storeW rfl 46 _ _ rfl rfl (evL e2) rfl K4 rfl infoEv (ev_oneC _) ?_; intro W5 U5 K5; have R5 := U5.trans R4 (by omega); replace q5 := q5.upd U5 (by omega); replace q4 := q4.upd U5 (by omega); replace C7 := C7.upd U5 (by omega); clear K4 U5 R4)
            | (clear t4; refine wpList_loadW rfl 46 _ rfl rfl C7 _ Tryd.underlying46 rfl infoEv ?_)
            | (refine wpList_loadW rfl 46 _ rfl rfl K5 _ Tryd.underlying46 rfl infoEv ?_)
            | (go_at_call 59; refine (hC2 _).mono ?_; rintro r W6 ⟨rfl, B6⟩; have R6 := Below.then R5 B6; replace q5 := q5.grown B6; replace q4 := q4.grown B6; replace C7 := C7.grown B6; clear B6 R5 K5))
            have HQ : Hid (IsR W6 b5 n (parF n (fun a b => rmwB (evA L a) (evA L b)) i (k + 1))) := q5.congr (fun j _ => parF_no n (fun a b => rmwB (evA L a) (evA L b)) i k j HQq.out)
            clear q5 HQq HB
            go_roundw
            case rel => exact ⟨k + 1, by omega, by simp, HQ.out, q4, C7, R6⟩
            case measure => simp [intOf]; omega
        · obtain rfl : k = n := by omega
          have HQ : Hid (IsR wr b5 k (parF k (fun a b => rmwB (evA L a) (evA L b)) (i + 1) 0)) := q5.congr (fun j _ => parF_next k _ i j)
          clear q5
          go_wp2
          go_roundw
          case rel => exact ⟨i + 1, by omega, by simp, HQ.out, q4, HB⟩
          case measure => simp [intOf]; omega
    · obtain rfl : i = n := by omega
      have HQ := q5.congr (fun j _ => parF_end i (fun a b => rmwB (evA L a) (evA L b)) j)
      clear q5
      go_wp2_with (first
        | (refine wpList_loadR rfl _ rfl rfl HQ ?_)
        | (refine wpList_storeR rfl _ _ rfl rfl rfl q4 ?_; intro W4 U4 r4))
      refine ret_R rfl rfl rfl r4 ⟨rfl, U4.trans HB.out (by omega)⟩
end Go.Proofs.YtdjlfpkemdiadaaDoor

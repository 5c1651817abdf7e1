/- those and pairs: the events, and the pairs of events, of which something is so. -/
import Derived.Test.YtdjlfpkemdiadaaDoorFA17
namespace Go.Proofs.YtdjlfpkemdiadaaDoor
open Go.RowKit M
set_option linter.unusedSimpArgs false
set_option linter.unusedVariables false

/-- The event at a place. -/
def evA (l : List EV) (i : Nat) : EV := l.getD i ev0
theorem evA_some {l : List EV} {i : Nat} {e : EV} (h : l[i]? = some e) : evA l i = e := by unfold evA; rw [List.getD_eq_getElem?_getD, h]; rfl
theorem maskN_yes (q : Nat → Bool) (k : Nat) (h : q k = true) : maskN k q ||| 2 ^ k = maskN (k + 1) q := by show _ = if _ then _ else _; rw [if_pos h]
theorem maskN_no (q : Nat → Bool) (k : Nat) (h : q k = false) : maskN k q = maskN (k + 1) q := by show _ = if _ then _ else _; rw [h]; rfl

set_option maxRecDepth 100000 in
set_option maxHeartbeats 8000000 in
theorem thoseK_any (l : List EV) (a : Option Addr) (c : Nat) (k : Int) (bk : Nat) (w : World) (hl : l.length ≤ 9223372036854775807) (hS : Seg w a (l.flatMap evL)) (hbk : bk < w.heap.size) (hk : w.cell? ⟨bk, 0, none⟩ = some (.int .i64 k)) :
    Calls Tryd.prog 82 #[.slice a l.length c, .func (.func 83) #[] #[.pointer (some ⟨bk, 0, none⟩)]] w fun e w' => e = .returned (.int .u64 (maskN (shL l).length (fun i => decide ((evA (shL l) i).kind = k)) : Nat)) ∧ Below w.heap.size w w' := by
  have hkn := fun W => known_any a l.length c W hl
  obtain ⟨a', c', ek, sk⟩ := kn_seg hS c
  rw [ek] at hkn
  have hn64 := shL_le l
  clear ek hS
  have hC : Hid (∀ W e, Below w.heap.size w W → Calls Tryd.prog 83 #[.agg (evL e).toArray, .pointer (some ⟨bk, 0, none⟩)] W fun r w' => r = .returned (.bool (decide (e.kind = k))) ∧ Below W.heap.size W w') := fun W e hB => of1_any e k bk W ((hB.cell (p := ⟨bk, 0, none⟩) hbk).trans hk) (Nat.lt_of_lt_of_le hbk hB.size)
  generalize shL l = L at *
  obtain ⟨n, hn⟩ : ∃ n, L.length = n := ⟨_, rfl⟩
  rw [hn] at hkn hn64 ⊢
  have HN : Hid (L.length = n) := hn
  have HS : Hid (Seg w a' (L.flatMap evL)) := sk
  clear hn sk hl
  go_enter Tryd.func82, Tryd.ntmps82
  go_wp2_with (first
    | (go_at_call 44; refine (hkn _).mono ?_; rintro e w' ⟨rfl, hw'⟩; replace hw' := hw'.symm; subst hw'))
  clear hkn
  go_loopw [5, 11] (fun sv iv wr => ∃ i : Nat, i ≤ n ∧ iv = .int .i64 (i : Int) ∧ sv = .int .u64 (maskN i (fun i => decide ((evA L i).kind = k)) : Nat) ∧ Hid (Below w.heap.size w wr)) (fun _ iv _ => n - (intOf iv).toNat)
  case atStart => exact ⟨0, by omega, rfl, rfl, Below.refl _ _⟩
  case round =>
    obtain ⟨i, hi, rfl, rfl, HB⟩ := hrel
    by_cases hlt : i < n
    · have hki : (i : Int) < n := by omega
      have hk64 : (i : Int) < 64 := by omega
      obtain ⟨e, he⟩ : ∃ q, L[i]? = some q := ⟨_, List.getElem?_eq_getElem (by rw [HN.out]; exact hlt)⟩
      obtain ⟨bl, ol, ea, hbl0, rg0⟩ := ev_range HS.out he
      subst ea
      have rg := range_grow rg0 hbl0 HB.out
      have hq : (fun i => decide ((evA L i).kind = k)) i = decide (e.kind = k) := by show decide ((evA L i).kind = k) = _; rw [evA_some he]
      have hw := wrap_pow i (by omega)
      have hml := maskN_lt64 (fun i => decide ((evA L i).kind = k)) (n := i) (by omega)
      have hor := or_pow (maskN i (fun i => decide ((evA L i).kind = k))) i hml (by omega)
      have hC2 := fun W hB => hC.out W e hB
      clear rg0 he
      have HNx : Hid (∀ b, decide (e.kind = k) = b → (b = true → maskN i (fun i => decide ((evA L i).kind = k)) ||| 2 ^ i = maskN (i + 1) (fun i => decide ((evA L i).kind = k))) ∧ (b = false → maskN i (fun i => decide ((evA L i).kind = k)) = maskN (i + 1) (fun i => decide ((evA L i).kind = k)))) := fun b hb => ⟨fun h => maskN_yes _ i (hq.trans (hb.trans h)), fun h => maskN_no _ i (hq.trans (hb.trans h))⟩
      clear hq hml
      obtain ⟨m2, hm2e⟩ : ∃ m2, maskN (i + 1) (fun i => decide ((evA L i).kind = k)) = m2 := ⟨_, rfl⟩
      rw [hm2e] at HNx
      have HM2 : Hid (maskN (i + 1) (fun i => decide ((evA L i).kind = k)) = m2) := hm2e
      clear hm2e
      generalize maskN i (fun i => decide ((evA L i).kind = k)) = m1 at *
      have t3 : True := trivial
      cases hb : decide (e.kind = k) with
      | true =>
        rw [hb] at hC2
        have hm2 := (HNx.out _ hb).1 rfl
        rw [hm2] at hor
        clear hm2 hb HNx
        go_wp2_with (first
          | (refine wpList_load_mid rfl 46 _ rfl bl (ol + i * 5) rfl (evL e) _ rg Tryd.underlying46 rfl infoEv ?_)
          | (clear t3; refine wpList_allocS rfl 46 rfl (evL ev0) zeroEv ?_; intro W4 b4 F4 K4; have R4 := Below.then HB.out (F_b F4); have hc4 : w.heap.size ≤ b4 := Nat.le_trans HB.out.size (Nat.le_of_eq F4.at'.symm); clear F4)
          | (refine wpList_storeW rfl 46 _ _ rfl rfl (evL e) rfl K4 rfl infoEv (ev_oneC _) ?_; intro W5 U5 K5; have R5 := U5.trans R4 hc4; clear K4 U5 R4)
          | (refine wpList_loadW rfl 46 _ rfl rfl K5 _ Tryd.underlying46 rfl infoEv ?_)
          | (go_at_call 83; refine (hC2 _ R5).mono ?_; rintro r W6 ⟨rfl, B6⟩; have R6 := Below.then R5 B6; clear B6 R5 K5))
        go_roundw
        case rel => exact ⟨i + 1, by omega, by simp, by rw [HM2.out], R6⟩
        case measure => simp [intOf]; omega
      | false =>
        rw [hb] at hC2
        have hm2 := (HNx.out _ hb).2 rfl
        subst hm2
        clear hb HNx
        go_wp2_with (first
          | (refine wpList_load_mid rfl 46 _ rfl bl (ol + i * 5) rfl (evL e) _ rg Tryd.underlying46 rfl infoEv ?_)
          | (clear t3; refine wpList_allocS rfl 46 rfl (evL ev0) zeroEv ?_; intro W4 b4 F4 K4; have R4 := Below.then HB.out (F_b F4); have hc4 : w.heap.size ≤ b4 := Nat.le_trans HB.out.size (Nat.le_of_eq F4.at'.symm); clear F4)
          | (refine wpList_storeW rfl 46 _ _ rfl rfl (evL e) rfl K4 rfl infoEv (ev_oneC _) ?_; intro W5 U5 K5; have R5 := U5.trans R4 hc4; clear K4 U5 R4)
          | (refine wpList_loadW rfl 46 _ rfl rfl K5 _ Tryd.underlying46 rfl infoEv ?_)
          | (go_at_call 83; refine (hC2 _ R5).mono ?_; rintro r W6 ⟨rfl, B6⟩; have R6 := Below.then R5 B6; clear B6 R5 K5))
        go_roundw
        case rel => exact ⟨i + 1, by omega, by simp, by rw [HM2.out], R6⟩
        case measure => simp [intOf]; omega
    · obtain rfl : i = n := by omega
      go_wp2
      go_ret
      exact ⟨rfl, HB.out⟩

set_option maxRecDepth 100000 in
set_option maxHeartbeats 8000000 in
theorem thoseL_any (l : List EV) (a : Option Addr) (c : Nat) (w : World) (hl : l.length ≤ 9223372036854775807) (hS : Seg w a (l.flatMap evL)) :
    Calls Tryd.prog 82 #[.slice a l.length c, .func (.func 84) #[] #[]] w fun e w' => e = .returned (.int .u64 (maskN (shL l).length (fun i => (evA (shL l) i).lck) : Nat)) ∧ Below w.heap.size w w' := by
  have hkn := fun W => known_any a l.length c W hl
  obtain ⟨a', c', ek, sk⟩ := kn_seg hS c
  rw [ek] at hkn
  have hn64 := shL_le l
  clear ek hS
  have hC : Hid (∀ W e, Below w.heap.size w W → Calls Tryd.prog 84 #[.agg (evL e).toArray] W fun r w' => r = .returned (.bool e.lck) ∧ Below W.heap.size W w') := fun W e hB => locked1_any e W
  generalize shL l = L at *
  obtain ⟨n, hn⟩ : ∃ n, L.length = n := ⟨_, rfl⟩
  rw [hn] at hkn hn64 ⊢
  have HN : Hid (L.length = n) := hn
  have HS : Hid (Seg w a' (L.flatMap evL)) := sk
  clear hn sk hl
  go_enter Tryd.func82, Tryd.ntmps82
  go_wp2_with (first
    | (go_at_call 44; refine (hkn _).mono ?_; rintro e w' ⟨rfl, hw'⟩; replace hw' := hw'.symm; subst hw'))
  clear hkn
  go_loopw [5, 11] (fun sv iv wr => ∃ i : Nat, i ≤ n ∧ iv = .int .i64 (i : Int) ∧ sv = .int .u64 (maskN i (fun i => (evA L i).lck) : Nat) ∧ Hid (Below w.heap.size w wr)) (fun _ iv _ => n - (intOf iv).toNat)
  case atStart => exact ⟨0, by omega, rfl, rfl, Below.refl _ _⟩
  case round =>
    obtain ⟨i, hi, rfl, rfl, HB⟩ := hrel
    by_cases hlt : i < n
    · have hki : (i : Int) < n := by omega
      have hk64 : (i : Int) < 64 := by omega
      obtain ⟨e, he⟩ : ∃ q, L[i]? = some q := ⟨_, List.getElem?_eq_getElem (by rw [HN.out]; exact hlt)⟩
      obtain ⟨bl, ol, ea, hbl0, rg0⟩ := ev_range HS.out he
      subst ea
      have rg := range_grow rg0 hbl0 HB.out
      have hq : (fun i => (evA L i).lck) i = e.lck := by show (evA L i).lck = _; rw [evA_some he]
      have hw := wrap_pow i (by omega)
      have hml := maskN_lt64 (fun i => (evA L i).lck) (n := i) (by omega)
      have hor := or_pow (maskN i (fun i => (evA L i).lck)) i hml (by omega)
      have hC2 := fun W hB => hC.out W e hB
      clear rg0 he
      have HNx : Hid (∀ b, e.lck = b → (b = true → maskN i (fun i => (evA L i).lck) ||| 2 ^ i = maskN (i + 1) (fun i => (evA L i).lck)) ∧ (b = false → maskN i (fun i => (evA L i).lck) = maskN (i + 1) (fun i => (evA L i).lck))) := fun b hb => ⟨fun h => maskN_yes _ i (hq.trans (hb.trans h)), fun h => maskN_no _ i (hq.trans (hb.trans h))⟩
      clear hq hml
      obtain ⟨m2, hm2e⟩ : ∃ m2, maskN (i + 1) (fun i => (evA L i).lck) = m2 := ⟨_, rfl⟩
      rw [hm2e] at HNx
      have HM2 : Hid (maskN (i + 1) (fun i => (evA L i).lck) = m2) := hm2e
      clear hm2e
      generalize maskN i (fun i => (evA L i).lck) = m1 at *
      have t3 : True := trivial
      cases hb : e.lck with
      | true =>
        rw [hb] at hC2
        have hm2 := (HNx.out _ hb).1 rfl
        rw [hm2] at hor
        clear hm2 hb HNx
        go_wp2_with (first
          | (refine wpList_load_mid rfl 46 _ rfl bl (ol + i * 5) rfl (evL e) _ rg Tryd.underlying46 rfl infoEv ?_)
          | (clear t3; refine wpList_allocS rfl 46 rfl (evL ev0) zeroEv ?_; intro W4 b4 F4 K4; have R4 := Below.then HB.out (F_b F4); have hc4 : w.heap.size ≤ b4 := Nat.le_trans HB.out.size (Nat.le_of_eq F4.at'.symm); clear F4)
          | (refine wpList_storeW rfl 46 _ _ rfl rfl (evL e) rfl K4 rfl infoEv (ev_oneC _) ?_; intro W5 U5 K5; have R5 := U5.trans R4 hc4; clear K4 U5 R4)
          | (refine wpList_loadW rfl 46 _ rfl rfl K5 _ Tryd.underlying46 rfl infoEv ?_)
          | (go_at_call 84; refine (hC2 _ R5).mono ?_; rintro r W6 ⟨rfl, B6⟩; have R6 := Below.then R5 B6; clear B6 R5 K5))
        go_roundw
        case rel => exact ⟨i + 1, by omega, by simp, by rw [HM2.out], R6⟩
        case measure => simp [intOf]; omega
      | false =>
        rw [hb] at hC2
        have hm2 := (HNx.out _ hb).2 rfl
        subst hm2
        clear hb HNx
        go_wp2_with (first
          | (refine wpList_load_mid rfl 46 _ rfl bl (ol + i * 5) rfl (evL e) _ rg Tryd.underlying46 rfl infoEv ?_)
          | (clear t3; refine wpList_allocS rfl 46 rfl (evL ev0) zeroEv ?_; intro W4 b4 F4 K4; have R4 := Below.then HB.out (F_b F4); have hc4 : w.heap.size ≤ b4 := Nat.le_trans HB.out.size (Nat.le_of_eq F4.at'.symm); clear F4)
          | (refine wpList_storeW rfl 46 _ _ rfl rfl (evL e) rfl K4 rfl infoEv (ev_oneC _) ?_; intro W5 U5 K5; have R5 := U5.trans R4 hc4; clear K4 U5 R4)
          | (refine wpList_loadW rfl 46 _ rfl rfl K5 _ Tryd.underlying46 rfl infoEv ?_)
          | (go_at_call 84; refine (hC2 _ R5).mono ?_; rintro r W6 ⟨rfl, B6⟩; have R6 := Below.then R5 B6; clear B6 R5 K5))
        go_roundw
        case rel => exact ⟨i + 1, by omega, by simp, by rw [HM2.out], R6⟩
        case measure => simp [intOf]; omega
    · obtain rfl : i = n := by omega
      go_wp2
      go_ret
      exact ⟨rfl, HB.out⟩
end Go.Proofs.YtdjlfpkemdiadaaDoor

/- The sets of events: Of, Memory, Locked, writes, of event and of the reference. -/
import Derived.Test.YtdneaaegllpnlaaDoorFB17
namespace Go.Proofs.YtdneaaegllpnlaaDoor
open Go.RowKit M
set_option linter.unusedSimpArgs false
set_option linter.unusedVariables false

/-- The events of a list of which something is so. -/
def setM (L : List EV) (p : EV → Bool) : Nat := maskN L.length (fun i => p (evA L i))
def kdB (k : Int) (e : EV) : Bool := decide (e.kind = k)
def mmB (e : EV) : Bool := wrB e || rdB e
theorem setM_lt {L : List EV} (h : L.length ≤ 64) (p : EV → Bool) : setM L p < 18446744073709551616 := maskN_lt64 _ h
theorem setM_or (L : List EV) (p q : EV → Bool) : setM L p ||| setM L q = setM L (fun e => p e || q e) := maskN_or _ _ _
theorem setM_and (L : List EV) (p q : EV → Bool) : setM L p &&& setM L q = setM L (fun e => p e && q e) := maskN_and _ _ _
theorem setM_wr (L : List EV) : setM L (kdB 1) ||| setM L (kdB 2) = setM L wrB := setM_or L _ _
theorem setM_mm (L : List EV) : setM L (kdB 3) ||| setM L wrB = setM L mmB := by
  rw [setM_or]; unfold setM; exact maskN_congr (fun b _ => Bool.or_comm _ _)
theorem setM_mm' (L : List EV) : setM L wrB ||| setM L (kdB 3) = setM L mmB := setM_or L _ _
section
variable {w : World} {l : List EV} {a : Option Addr} {c : Nat}
set_option maxHeartbeats 1000000 in
theorem of_x (k : Int) (hl : l.length ≤ 9223372036854775807) (hS : Seg w a (l.flatMap evL)) : Calls Tryd.prog 18 #[.slice a l.length c, .int .i64 k] w fun e w' => e = .returned (.int .u64 (setM (shL l) (kdB k) : Nat)) ∧ Below w.heap.size w w' := by
  have B1 : Below w.heap.size w (w.alloc (.cells #[.int .i64 k] 3)) := (Below.refl _ w).alloc (Nat.le_refl _) _
  have bK : (w.alloc (.cells #[.int .i64 k] 3)).cell? ⟨w.heap.size, 0, none⟩ = some (.int .i64 k) := (IsS.new w 3 [.int .i64 k]).cell 0
  have hC := thoseK_any l a c k w.heap.size (w.alloc (.cells #[.int .i64 k] 3)) hl (hS.below B1) (by simp) bK
  have HV : Hid (setM (shL l) (kdB k) = maskN (shL l).length (fun i => decide ((evA (shL l) i).kind = k))) := rfl
  have HC : Hid (∀ W, w.alloc (.cells #[.int .i64 k] 3) = W → Calls Tryd.prog 54 #[.slice a l.length c, .func (.func 55) #[] #[.pointer (some ⟨w.heap.size, 0, none⟩)]] W fun e w' => e = .returned (.int .u64 (setM (shL l) (kdB k) : Nat)) ∧ Below w.heap.size w w') := fun W h => by
    subst h
    exact hC.mono fun e w' ⟨h1, h2⟩ => ⟨h1, Below.then B1 h2⟩
  clear hC bK B1 hS HV
  generalize setM (shL l) (kdB k) = z at *
  generalize l.length = n at *
  go_enter Tryd.func18, Tryd.ntmps18
  go_wp2_with (go_at_call 54; refine (HC.out _ rfl).mono ?_; rintro e W2 ⟨rfl, B2⟩)
  go_ret
  exact ⟨rfl, B2⟩
set_option maxHeartbeats 1000000 in
theorem locked_x (hl : l.length ≤ 9223372036854775807) (hS : Seg w a (l.flatMap evL)) : Calls Tryd.prog 22 #[.slice a l.length c] w fun e w' => e = .returned (.int .u64 (setM (shL l) EV.lck : Nat)) ∧ Below w.heap.size w w' := by
  have HC : Hid (Calls Tryd.prog 54 #[.slice a l.length c, .func (.func 58) #[] #[]] w fun e w' => e = .returned (.int .u64 (setM (shL l) EV.lck : Nat)) ∧ Below w.heap.size w w') := thoseL_any l a c w hl hS
  clear hS
  generalize setM (shL l) EV.lck = z at *
  generalize l.length = n at *
  go_enter Tryd.func22, Tryd.ntmps22
  go_wp2_with (go_at_call 54; refine HC.out.mono ?_; rintro e W2 ⟨rfl, B2⟩)
  go_ret
  exact ⟨rfl, B2⟩
set_option maxHeartbeats 1000000 in
theorem writes_x (hl : l.length ≤ 9223372036854775807) (hS : Seg w a (l.flatMap evL)) : Calls Tryd.prog 57 #[.slice a l.length c] w fun e w' => e = .returned (.int .u64 (setM (shL l) wrB : Nat)) ∧ Below w.heap.size w w' := by
  have H1 : Hid (∀ W, Below w.heap.size w W → Calls Tryd.prog 18 #[.slice a l.length c, .int .i64 1] W fun e w' => e = .returned (.int .u64 (setM (shL l) (kdB 1) : Nat)) ∧ Below W.heap.size W w') := fun W hB => of_x 1 hl (hS.below hB)
  have H2 : Hid (∀ W, Below w.heap.size w W → Calls Tryd.prog 18 #[.slice a l.length c, .int .i64 2] W fun e w' => e = .returned (.int .u64 (setM (shL l) (kdB 2) : Nat)) ∧ Below W.heap.size W w') := fun W hB => of_x 2 hl (hS.below hB)
  have hor := u64_or_nat (setM (shL l) (kdB 1)) (setM (shL l) (kdB 2)) (setM_lt (shL_le l) _) (setM_lt (shL_le l) _)
  rw [setM_wr] at hor
  clear hS
  generalize setM (shL l) (kdB 1) = z1 at *
  generalize setM (shL l) (kdB 2) = z2 at *
  generalize setM (shL l) wrB = z at *
  generalize l.length = n at *
  have t1 : True := trivial
  have B0 := Below.refl w.heap.size w
  go_enter Tryd.func57, Tryd.ntmps57
  go_wp2_with (first
    | (go_at_call 18; clear t1; refine (H1.out _ B0).mono ?_; rintro e W2 ⟨rfl, B2⟩; replace B0 := Below.then B0 B2; clear B2)
    | (go_at_call 18; refine (H2.out _ B0).mono ?_; rintro e W3 ⟨rfl, B2⟩; replace B0 := Below.then B0 B2; clear B2))
  go_ret
  exact ⟨ret_int (by first | rfl | exact hor | (simp [hor]; done)), B0⟩
set_option maxHeartbeats 1000000 in
theorem memory_x (hl : l.length ≤ 9223372036854775807) (hS : Seg w a (l.flatMap evL)) : Calls Tryd.prog 20 #[.slice a l.length c] w fun e w' => e = .returned (.int .u64 (setM (shL l) mmB : Nat)) ∧ Below w.heap.size w w' := by
  have H1 : Hid (∀ W, Below w.heap.size w W → Calls Tryd.prog 18 #[.slice a l.length c, .int .i64 3] W fun e w' => e = .returned (.int .u64 (setM (shL l) (kdB 3) : Nat)) ∧ Below W.heap.size W w') := fun W hB => of_x 3 hl (hS.below hB)
  have H2 : Hid (∀ W, Below w.heap.size w W → Calls Tryd.prog 57 #[.slice a l.length c] W fun e w' => e = .returned (.int .u64 (setM (shL l) wrB : Nat)) ∧ Below W.heap.size W w') := fun W hB => writes_x hl (hS.below hB)
  have hor := u64_or_nat (setM (shL l) (kdB 3)) (setM (shL l) wrB) (setM_lt (shL_le l) _) (setM_lt (shL_le l) _)
  rw [setM_mm] at hor
  clear hS
  generalize setM (shL l) (kdB 3) = z1 at *
  generalize setM (shL l) wrB = z2 at *
  generalize setM (shL l) mmB = z at *
  generalize l.length = n at *
  have B0 := Below.refl w.heap.size w
  go_enter Tryd.func20, Tryd.ntmps20
  go_wp2_with (first
    | (go_at_call 18; refine (H1.out _ B0).mono ?_; rintro e W2 ⟨rfl, B2⟩; replace B0 := Below.then B0 B2; clear B2)
    | (go_at_call 57; refine (H2.out _ B0).mono ?_; rintro e W3 ⟨rfl, B2⟩; replace B0 := Below.then B0 B2; clear B2))
  go_ret
  exact ⟨ret_int (by first | rfl | exact hor | (simp [hor]; done)), B0⟩
end
/-- The reference's. -/
theorem ev_cell {w : World} {a : Option Addr} {l : List EV} (h : Seg w a (l.flatMap evL)) {i : Nat} {j : EV} (hj : l[i]? = some j) : ∃ b o, a = some ⟨b, o, none⟩ ∧ b < w.heap.size ∧ w.cell? ⟨b, o + i * 5, none⟩ = some (.int .i64 j.kind) ∧ w.cell? ⟨b, o + i * 5 + 4, none⟩ = some (.bool j.lck) := by
  obtain ⟨b, o, e, hb, hr⟩ := ev_range h hj
  exact ⟨b, o, e, hb, hr 0 _ rfl, hr 4 _ rfl⟩
set_option maxRecDepth 100000 in
set_option maxHeartbeats 4000000 in
theorem rof_x {w : World} {l : List EV} {a : Option Addr} {c : Nat} (k : Int) (hl : l.length ≤ 9223372036854775807) (hS : Seg w a (l.flatMap evL)) : Calls Tryd.prog 19 #[.slice a l.length c, .int .i64 k] w fun e w' => e = .returned (.int .u64 (setM (shL l) (kdB k) : Nat)) ∧ w' = w := by
  have hkn := fun W => short_any a l.length c W hl
  obtain ⟨a', c', ek, sk⟩ := kn_seg hS c
  rw [ek] at hkn
  have hn64 := shL_le l
  clear ek hS
  generalize shL l = L at *
  obtain ⟨n, hn⟩ : ∃ n, L.length = n := ⟨_, rfl⟩
  have HV : Hid (setM L (kdB k) = maskN n (fun i => kdB k (evA L i))) := (by show maskN _ _ = _; rw [hn])
  rw [hn] at hkn hn64
  have HN : Hid (L.length = n) := hn
  have HS : Hid (Seg w a' (L.flatMap evL)) := sk
  clear hn sk hl
  go_enter Tryd.func19, Tryd.ntmps19
  go_wp2_with (first
    | (go_at_call 56; refine (hkn _).mono ?_; rintro e w' ⟨rfl, hw'⟩; replace hw' := hw'.symm; subst hw'))
  clear hkn
  go_loop [5, 6] (fun sv iv => ∃ i : Nat, i ≤ n ∧ iv = .int .i64 (i : Int) ∧ sv = .int .u64 (maskN i (fun i => kdB k (evA L i)) : Nat)) (fun _ iv => n - (intOf iv).toNat)
  case atStart => exact ⟨0, by omega, rfl, rfl⟩
  case round =>
    obtain ⟨i, hi, rfl, rfl⟩ := hrel
    by_cases hlt : i < n
    · have hki : (i : Int) < n := by omega
      have hk64 : (i : Int) < 64 := by omega
      obtain ⟨e, he⟩ : ∃ q, L[i]? = some q := ⟨_, List.getElem?_eq_getElem (by rw [HN.out]; exact hlt)⟩
      obtain ⟨bl, ol, ea, hbl0, c0, c4⟩ := ev_cell HS.out he
      subst ea
      have hq : (fun i => kdB k (evA L i)) i = decide (e.kind = k) := by show kdB k (evA L i) = _; rw [evA_some he]; rfl
      have hw := wrap_pow i (by omega)
      have hml := maskN_lt64 (fun i => kdB k (evA L i)) (n := i) (by omega)
      have hor := or_pow (maskN i (fun i => kdB k (evA L i))) i hml (by omega)
      by_cases hb : e.kind = k
      · have hm := maskN_yes (fun i => kdB k (evA L i)) i (hq.trans (decide_eq_true hb))
        rw [hm] at hor
        have HM : Hid (maskN i (fun i => kdB k (evA L i)) ||| 2 ^ i = maskN (i + 1) (fun i => kdB k (evA L i))) := hm
        clear hm hq hml he c4
        obtain ⟨m2, hm2⟩ : ∃ m2, maskN (i + 1) (fun i => kdB k (evA L i)) = m2 := ⟨_, rfl⟩
        rw [hm2] at hor
        have HM2 : Hid (maskN (i + 1) (fun i => kdB k (evA L i)) = m2) := hm2
        clear hm2 HM
        generalize maskN i (fun i => kdB k (evA L i)) = m1 at *
        go_wp2
        go_round
        case rel => exact ⟨i + 1, by omega, by simp, by rw [HM2.out]⟩
        case measure => simp [intOf]; omega
      · have hm := maskN_no (fun i => kdB k (evA L i)) i (hq.trans (decide_eq_false hb))
        have HM : Hid (maskN i (fun i => kdB k (evA L i)) = maskN (i + 1) (fun i => kdB k (evA L i))) := hm
        clear hm hq hml he c4
        go_wp2
        go_round
        case rel => exact ⟨i + 1, by omega, by simp, by rw [HM.out]⟩
        case measure => simp [intOf]; omega
    · obtain rfl : i = n := by omega
      go_wp2
      go_ret
      exact ⟨by rw [HV.out]; rfl, rfl⟩
set_option maxRecDepth 100000 in
set_option maxHeartbeats 4000000 in
theorem rlocked_x {w : World} {l : List EV} {a : Option Addr} {c : Nat} (hl : l.length ≤ 9223372036854775807) (hS : Seg w a (l.flatMap evL)) : Calls Tryd.prog 23 #[.slice a l.length c] w fun e w' => e = .returned (.int .u64 (setM (shL l) EV.lck : Nat)) ∧ w' = w := by
  have hkn := fun W => short_any a l.length c W hl
  obtain ⟨a', c', ek, sk⟩ := kn_seg hS c
  rw [ek] at hkn
  have hn64 := shL_le l
  clear ek hS
  generalize shL l = L at *
  obtain ⟨n, hn⟩ : ∃ n, L.length = n := ⟨_, rfl⟩
  have HV : Hid (setM L EV.lck = maskN n (fun i => (evA L i).lck)) := (by show maskN _ _ = _; rw [hn])
  rw [hn] at hkn hn64
  have HN : Hid (L.length = n) := hn
  have HS : Hid (Seg w a' (L.flatMap evL)) := sk
  clear hn sk hl
  go_enter Tryd.func23, Tryd.ntmps23
  go_wp2_with (first
    | (go_at_call 56; refine (hkn _).mono ?_; rintro e w' ⟨rfl, hw'⟩; replace hw' := hw'.symm; subst hw'))
  clear hkn
  go_loop [3, 4] (fun sv iv => ∃ i : Nat, i ≤ n ∧ iv = .int .i64 (i : Int) ∧ sv = .int .u64 (maskN i (fun i => (evA L i).lck) : Nat)) (fun _ iv => n - (intOf iv).toNat)
  case atStart => exact ⟨0, by omega, rfl, rfl⟩
  case round =>
    obtain ⟨i, hi, rfl, rfl⟩ := hrel
    by_cases hlt : i < n
    · have hki : (i : Int) < n := by omega
      have hk64 : (i : Int) < 64 := by omega
      obtain ⟨e, he⟩ : ∃ q, L[i]? = some q := ⟨_, List.getElem?_eq_getElem (by rw [HN.out]; exact hlt)⟩
      obtain ⟨bl, ol, ea, hbl0, c0, c4⟩ := ev_cell HS.out he
      subst ea
      have hq : (fun i => (evA L i).lck) i = e.lck := by show (evA L i).lck = _; rw [evA_some he]
      have hw := wrap_pow i (by omega)
      have hml := maskN_lt64 (fun i => (evA L i).lck) (n := i) (by omega)
      have hor := or_pow (maskN i (fun i => (evA L i).lck)) i hml (by omega)
      cases hb : e.lck with
      | true =>
        have hm := maskN_yes (fun i => (evA L i).lck) i (hq.trans (hb))
        rw [hm] at hor
        have HM : Hid (maskN i (fun i => (evA L i).lck) ||| 2 ^ i = maskN (i + 1) (fun i => (evA L i).lck)) := hm
        rw [hb] at c4
        clear hm hq hml he c0
        obtain ⟨m2, hm2⟩ : ∃ m2, maskN (i + 1) (fun i => (evA L i).lck) = m2 := ⟨_, rfl⟩
        rw [hm2] at hor
        have HM2 : Hid (maskN (i + 1) (fun i => (evA L i).lck) = m2) := hm2
        clear hm2 HM
        generalize maskN i (fun i => (evA L i).lck) = m1 at *
        go_wp2
        go_round
        case rel => exact ⟨i + 1, by omega, by simp, by rw [HM2.out]⟩
        case measure => simp [intOf]; omega
      | false =>
        have hm := maskN_no (fun i => (evA L i).lck) i (hq.trans (hb))
        have HM : Hid (maskN i (fun i => (evA L i).lck) = maskN (i + 1) (fun i => (evA L i).lck)) := hm
        rw [hb] at c4
        clear hm hq hml he c0
        go_wp2
        go_round
        case rel => exact ⟨i + 1, by omega, by simp, by rw [HM.out]⟩
        case measure => simp [intOf]; omega
    · obtain rfl : i = n := by omega
      go_wp2
      go_ret
      exact ⟨by rw [HV.out]; rfl, rfl⟩
set_option maxHeartbeats 1000000 in
theorem rmemory_x {w : World} {l : List EV} {a : Option Addr} {c : Nat} (hl : l.length ≤ 9223372036854775807) (hS : Seg w a (l.flatMap evL)) : Calls Tryd.prog 21 #[.slice a l.length c] w fun e w' => e = .returned (.int .u64 (setM (shL l) mmB : Nat)) ∧ w' = w := by
  have H1 : Hid (∀ W, W = w → Calls Tryd.prog 19 #[.slice a l.length c, .int .i64 1] W fun e w' => e = .returned (.int .u64 (setM (shL l) (kdB 1) : Nat)) ∧ w' = w) := fun W h => by subst h; exact rof_x 1 hl hS
  have H2 : Hid (∀ W, W = w → Calls Tryd.prog 19 #[.slice a l.length c, .int .i64 2] W fun e w' => e = .returned (.int .u64 (setM (shL l) (kdB 2) : Nat)) ∧ w' = w) := fun W h => by subst h; exact rof_x 2 hl hS
  have H3 : Hid (∀ W, W = w → Calls Tryd.prog 19 #[.slice a l.length c, .int .i64 3] W fun e w' => e = .returned (.int .u64 (setM (shL l) (kdB 3) : Nat)) ∧ w' = w) := fun W h => by subst h; exact rof_x 3 hl hS
  have hor := u64_or_nat (setM (shL l) (kdB 1)) (setM (shL l) (kdB 2)) (setM_lt (shL_le l) _) (setM_lt (shL_le l) _)
  rw [setM_wr] at hor
  have hor2 := u64_or_nat (setM (shL l) wrB) (setM (shL l) (kdB 3)) (setM_lt (shL_le l) _) (setM_lt (shL_le l) _)
  rw [setM_mm'] at hor2
  clear hS
  generalize setM (shL l) (kdB 1) = z1 at *
  generalize setM (shL l) (kdB 2) = z2 at *
  generalize setM (shL l) (kdB 3) = z3 at *
  generalize setM (shL l) wrB = z4 at *
  generalize setM (shL l) mmB = z at *
  generalize l.length = n at *
  have t1 : True := trivial
  have t2 : True := trivial
  go_enter Tryd.func21, Tryd.ntmps21
  go_wp2_with (first
    | (go_at_call 19; clear t1; refine (H1.out _ rfl).mono ?_; rintro e w' ⟨rfl, hw'⟩; subst hw')
    | (go_at_call 19; clear t2; refine (H2.out _ rfl).mono ?_; rintro e w' ⟨rfl, hw'⟩; subst hw')
    | (go_at_call 19; refine (H3.out _ rfl).mono ?_; rintro e w' ⟨rfl, hw'⟩; subst hw'))
  go_ret
  exact ⟨ret_int (by first | rfl | exact hor2 | (simp [hor, hor2]; done)), rfl⟩
end Go.Proofs.YtdneaaegllpnlaaDoor

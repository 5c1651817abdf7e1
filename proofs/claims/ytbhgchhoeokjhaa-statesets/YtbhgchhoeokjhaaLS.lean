/- StateSets: the law. -/
import Derived.Test.YtbhgchhoeokjhaaL3
import Derived.Test.YtbhgchhoeokjhaaRJ
import Derived.Deep.CutRange
namespace Go.Proofs.Ytbhgchhoeokjhaa
open Go Go.RowKit M
set_option linter.unusedSimpArgs false
set_option linter.unusedVariables false

theorem own_null {w : World} {B n c : Nat} {a : Option Addr} {l : List FS} (h : OwnL w B (.slice a n c) l) : a = none → c = 0 := by
  obtain ⟨a', c', e, _, hz⟩ := own_row h
  injection e with e1 e2 e3
  rw [e1, e3]; exact hz
theorem find_ex : ∀ (l : List FS) (f : FS), Ris l → ∃ p, FindAt l f p
  | [], f, _ => ⟨0, Nat.le_refl _, fun j hj => absurd hj (Nat.not_lt_zero _), fun j _ hj => absurd hj (Nat.not_lt_zero _)⟩
  | x :: l, f, h => by
    by_cases hx : ltF x f
    · obtain ⟨p, h1, h2, h3⟩ := find_ex l f h.tail
      refine ⟨p + 1, Nat.succ_le_succ h1, fun j hj => ?_, fun j hj hl => ?_⟩
      · cases j with
        | zero => exact hx
        | succ j => exact h2 j (by omega)
      · cases j with
        | zero => omega
        | succ j => exact h3 j (by omega) (Nat.lt_of_succ_lt_succ hl)
    · exact ⟨0, find_stop h (Nat.zero_le _) (fun j hj => absurd hj (Nat.not_lt_zero _)) (fun _ => hx)⟩
set_option maxRecDepth 100000 in
set_option maxHeartbeats 4000000 in
theorem sets_few (xs ys : List FS) (f : FS) (a1 a2 : Option Addr) (n1 n2 c1 c2 : Nat) (w : World) (hl1 : xs.length = n1) (hl2 : ys.length = n2) (hS1 : Seg w a1 (flatF xs)) (hS2 : Seg w a2 (flatF ys)) (hz1 : a1 = none → c1 = 0) (hz2 : a2 = none → c2 = 0) (hn : n1 + n2 ≤ 4000) :
    Calls Try.prog 4 #[.slice a1 n1 c1, .slice a2 n2 c2, .agg (encF f).toArray] w fun e w' => e = .returned (.bool true) ∧ Below w.heap.size w w' := by
  have hF := fun W => few_any a1 a2 n1 n2 c1 c2 (by omega) (by omega) W
  rw [decide_eq_true hn] at hF
  have h3 := fun W (h1 : Seg W a1 (flatF xs)) (h2 : Seg W a2 (flatF ys)) => three_any xs ys a1 a2 n1 n2 c1 c2 W hl1 hl2 h1 h2 hz1 hz2 (by omega) (by omega)
  have hRa := fun W (h : Seg W a1 (flatF xs)) => rsort_any a1 c1 xs (by omega) W h
  have hRb := fun W (h : Seg W a2 (flatF ys)) => rsort_any a2 c2 ys (by omega) W h
  simp only [hl1] at hRa
  simp only [hl2] at hRb
  have q1 : (setF xs).length ≤ 4000 := by have := setF_len xs; omega
  have q2 : (setF ys).length ≤ 4000 := by have := setF_len ys; omega
  have HR : Hid (Ris (setF xs)) := setF_ris xs
  generalize setF xs = SA at *
  generalize setF ys = SB at *
  have hLent := fun W a c (h : Seg W a (flatF SA)) => lent_any a c SA (by omega) W h
  have hFind := fun W a c (X : FS) (h : Seg W a (flatF SA)) => find_any a c SA X (by omega) HR.out W h
  have hRFind := fun W a c (X : FS) (h : Seg W a (flatF SA)) => rfind_any a c SA X (by omega) HR.out W h
  obtain ⟨m1, hm1⟩ : ∃ m, SA.length = m := ⟨_, rfl⟩
  obtain ⟨m2, hm2⟩ : ∃ m, SB.length = m := ⟨_, rfl⟩
  have h3b := fun W p q c d (h1 : Seg W p (flatF SA)) (h2 : Seg W q (flatF SB)) (k1 : p = none → c = 0) (k2 : q = none → d = 0) => three_any SA SB p q m1 m2 c d W hm1 hm2 h1 h2 k1 k2 (by omega) (by omega)
  simp only [hm1] at hLent hFind hRFind q1
  rw [hm2] at q2
  have HM1 : Hid (SA.length = m1) := hm1
  have HM2 : Hid (SB.length = m2) := hm2
  have HS1 : Hid (Seg w a1 (flatF xs)) := hS1
  have HS2 : Hid (Seg w a2 (flatF ys)) := hS2
  have hi2 : (m2 : Int) ≤ 4000 := by omega
  clear hS1 hS2 hm1 hm2 hl1 hl2
  have ta : True := trivial
  have tb : True := trivial
  go_enter Try.func4, Try.ntmps4
  go_upto_region 7 with (first
    | (clear ta; refine wpList_boxS rfl _ _ rfl (encF f) rfl ?_; intro wa b1 Fa Ia; have Ba := fresh_b Fa)
    | (go_at_call 7; refine (hF _).mono ?_; rintro e w' ⟨rfl, hw'⟩; replace hw' := hw'.symm; subst hw'; clear hF)
    | (go_at_call 21; refine (h3 _ (HS1.out.below Ba) (HS2.out.below Ba)).mono ?_; rintro e w1 ⟨rfl, B1⟩; have B01 := Below.then Ba B1; have I1 := Ia.grown B1; clear h3 Ia Fa)
    | (clear tb; go_at_call 10; refine (hRa _ (HS1.out.below B01)).mono ?_; rintro e w2 ⟨vs, rfl, O2, B2⟩; obtain ⟨ps, cs, hvs, -⟩ := own_slice O2 HM1.out; subst hvs; have B02 := Below.then B01 B2; have I2 := I1.grown B2; have tc : True := trivial; clear hRa I1)
    | (clear tc; go_at_call 10; refine (hRb _ (HS2.out.below B02)).mono ?_; rintro e w3 ⟨vt, rfl, O3, B3⟩; obtain ⟨pt, ct, hvt, -⟩ := own_slice O3 HM2.out; subst hvt; have B03 := Below.then B02 B3; have I3 := I2.grown B3; have O3s := own_belowW O2 B3; have Ss := own_seg' O3s; have St := own_seg' O3; have Zs := own_null O3s; have Zt := own_null O3; clear hRb I2 O2 O3 O3s))
  obtain ⟨p, hp⟩ := find_ex SA f HR.out
  have hFp : ∀ W a c, Seg W a (flatF SA) → Calls Try.prog 22 #[.slice a m1 c, .agg (encF f).toArray] W fun e w' => e = .returned (.tuple #[.int .i64 (p : Int), .bool (decide (f ∈ SA))]) ∧ Below W.heap.size W w' := fun W a c h => (hFind W a c f h).mono fun e w' ⟨q, hq, he, hB⟩ => ⟨by rw [he, hq.uniq hp], hB⟩
  have hRp : ∀ W a c, Seg W a (flatF SA) → Calls Try.prog 23 #[.slice a m1 c, .agg (encF f).toArray] W fun e w' => e = .returned (.tuple #[.int .i64 (p : Int), .bool (decide (f ∈ SA))]) ∧ Below W.heap.size W w' := fun W a c h => (hRFind W a c f h).mono fun e w' ⟨q, hq, he, hB⟩ => ⟨by rw [he, hq.uniq hp], hB⟩
  clear hp
  generalize decide (f ∈ SA) = df at *
  refine region_invA 8 (fun a0 listed a' w' => ∃ x31 x32 x33 x34 x30 x35 x36 x9 : Value, a' = ((((((((a0.put (some 31) x31).put (some 32) x32).put (some 33) x33).put (some 34) x34).put (some 30) x30).put (some 35) x35).put (some 36) x36).put (some 9) x9) ∧ Hid (Below w3.heap.size w3 w') ∧ (listed.getD 0 false = true → x31 = (.slice ps m1 cs)) ∧ (listed.getD 1 false = true → ∃ g, x32 = .slice (some ⟨g, 0, none⟩) m1 (m1 + 1) ∧ Lnt w' g SA) ∧ (listed.getD 2 false = true → x33 = (.agg (encF f).toArray)) ∧ (listed.getD 3 false = true → x34 = (.tuple #[.int .i64 (p : Int), .bool df])) ∧ (listed.getD 4 false = true → x30 = (.tuple #[.int .i64 (p : Int), .bool df])) ∧ (listed.getD 5 false = true → x35 = (.int .i64 (p : Int))) ∧ (listed.getD 6 false = true → x36 = (.bool df)) ∧ (listed.getD 7 false = true → x9 = (.int .i64 (p : Int)))) (by kernel_rfl) (by kernel_rfl) ?i0 ?istep ?iend
  case i0 => exact ⟨_, _, _, _, _, _, _, _, by first | (simp only [Act.put, List.setIfInBounds_toArray, List.set_cons_succ, List.set_cons_zero]; done) | (simp only [Act.put, List.setIfInBounds_toArray, List.set_cons_succ, List.set_cons_zero]; rfl) | rfl, below_drew (Below.refl _ _), fun h => (not_rep h).elim, fun h => (not_rep h).elim, fun h => (not_rep h).elim, fun h => (not_rep h).elim, fun h => (not_rep h).elim, fun h => (not_rep h).elim, fun h => (not_rep h).elim, fun h => (not_rep h).elim⟩
  case istep =>
    rintro i listed a' w' hi hr ⟨x31, x32, x33, x34, x30, x35, x36, x9, rfl, HBw, d0, d1, d2, d3, d4, d5, d6, d7⟩
    obtain ⟨hun, oj, hoj, hwt⟩ := mem_ready.1 hr
    simp only [Act.put, List.setIfInBounds_toArray, List.set_cons_succ, List.set_cons_zero]
    have hcase : i = 0 ∨ i = 1 ∨ i = 2 ∨ i = 3 ∨ i = 4 ∨ i = 5 ∨ i = 6 ∨ i = 7 := by omega
    rcases hcase with rfl | rfl | rfl | rfl | rfl | rfl | rfl | rfl
    · have hoj2 := hoj
      obtain rfl := Option.some.inj hoj
      refine wpOp_value hoj2 rfl (v := (.slice ps m1 cs)) (w' := w') (by first | rfl | (go_simp; done) | (simp [go_sem]; done) | (simp [execOp, go_sem]; done)) ?_
      exact ⟨(.slice ps m1 cs), x32, x33, x34, x30, x35, x36, x9, by first | (simp only [Act.put, List.setIfInBounds_toArray, List.set_cons_succ, List.set_cons_zero]; done) | (simp only [Act.put, List.setIfInBounds_toArray, List.set_cons_succ, List.set_cons_zero]; rfl) | rfl, Below.then HBw.out (Below.refl _ _), fun _ => rfl, fun h => (Exists.elim (d1 (keep (by decide) h)) fun g h => ⟨g, h.1, lnt_grown h.2 (Below.refl _ _)⟩), fun h => (d2 (keep (by decide) h)), fun h => (d3 (keep (by decide) h)), fun h => (d4 (keep (by decide) h)), fun h => (d5 (keep (by decide) h)), fun h => (d6 (keep (by decide) h)), fun h => (d7 (keep (by decide) h))⟩
    · have hoj2 := hoj
      obtain rfl := Option.some.inj hoj
      have e0 := d0 (hwt ⟨0, .data⟩ (by simp) rfl)
      subst e0
      refine wpOp_call hoj2 rfl (f := 8) (args := #[.slice ps m1 cs]) (by first | rfl | (go_simp; done) | (simp [go_sem]; done) | (simp [execOp, go_sem]; done)) ?_
      refine (hLent w' ps cs (Ss.below HBw.out)).mono ?_
      rintro e w4 ⟨⟨g, rfl, -, L4⟩, B4⟩
      refine ⟨_, rfl, ?_⟩
      exact ⟨(.slice ps m1 cs), (.slice (some ⟨g, 0, none⟩) m1 (m1 + 1)), x33, x34, x30, x35, x36, x9, by first | (simp only [Act.put, List.setIfInBounds_toArray, List.set_cons_succ, List.set_cons_zero]; done) | (simp only [Act.put, List.setIfInBounds_toArray, List.set_cons_succ, List.set_cons_zero]; rfl) | rfl, Below.then HBw.out B4, fun h => (d0 (keep (by decide) h)), fun _ => ⟨g, rfl, L4⟩, fun h => (d2 (keep (by decide) h)), fun h => (d3 (keep (by decide) h)), fun h => (d4 (keep (by decide) h)), fun h => (d5 (keep (by decide) h)), fun h => (d6 (keep (by decide) h)), fun h => (d7 (keep (by decide) h))⟩
    · have hoj2 := hoj
      obtain rfl := Option.some.inj hoj
      refine wpOp_value hoj2 rfl (v := .agg (encF f).toArray) (w' := w') (exec_loadE (b := b1) (o := 0) (x := f) _ rfl rfl (fun i u hu => by rw [Nat.zero_add]; exact ((I3.grown HBw.out).cell i).trans hu)) ?_
      exact ⟨x31, x32, (.agg (encF f).toArray), x34, x30, x35, x36, x9, by first | (simp only [Act.put, List.setIfInBounds_toArray, List.set_cons_succ, List.set_cons_zero]; done) | (simp only [Act.put, List.setIfInBounds_toArray, List.set_cons_succ, List.set_cons_zero]; rfl) | rfl, Below.then HBw.out (Below.refl _ _), fun h => (d0 (keep (by decide) h)), fun h => (Exists.elim (d1 (keep (by decide) h)) fun g h => ⟨g, h.1, lnt_grown h.2 (Below.refl _ _)⟩), fun _ => rfl, fun h => (d3 (keep (by decide) h)), fun h => (d4 (keep (by decide) h)), fun h => (d5 (keep (by decide) h)), fun h => (d6 (keep (by decide) h)), fun h => (d7 (keep (by decide) h))⟩
    · have hoj2 := hoj
      obtain rfl := Option.some.inj hoj
      have e1 := d1 (hwt ⟨1, .data⟩ (by simp) rfl)
      have e2 := d2 (hwt ⟨2, .data⟩ (by simp) rfl)
      obtain ⟨g, rfl, L4⟩ := e1
      subst e2
      refine wpOp_call hoj2 rfl (f := 22) (args := #[.slice (some ⟨g, 0, none⟩) m1 (m1 + 1), .agg (encF f).toArray]) (by first | rfl | (go_simp; done) | (simp [go_sem]; done) | (simp [execOp, go_sem]; done)) ?_
      refine (hFp w' _ _ (lnt_seg L4)).mono ?_
      rintro e w5 ⟨rfl, B5⟩
      refine ⟨_, rfl, ?_⟩
      exact ⟨x31, (.slice (some ⟨g, 0, none⟩) m1 (m1 + 1)), (.agg (encF f).toArray), (.tuple #[.int .i64 (p : Int), .bool df]), x30, x35, x36, x9, by first | (simp only [Act.put, List.setIfInBounds_toArray, List.set_cons_succ, List.set_cons_zero]; done) | (simp only [Act.put, List.setIfInBounds_toArray, List.set_cons_succ, List.set_cons_zero]; rfl) | rfl, Below.then HBw.out B5, fun h => (d0 (keep (by decide) h)), fun h => (Exists.elim (d1 (keep (by decide) h)) fun g h => ⟨g, h.1, lnt_grown h.2 B5⟩), fun h => (d2 (keep (by decide) h)), fun _ => rfl, fun h => (d4 (keep (by decide) h)), fun h => (d5 (keep (by decide) h)), fun h => (d6 (keep (by decide) h)), fun h => (d7 (keep (by decide) h))⟩
    · have hoj2 := hoj
      obtain rfl := Option.some.inj hoj
      have e3 := d3 (hwt ⟨3, .data⟩ (by simp) rfl)
      subst e3
      refine wpOp_value hoj2 rfl (v := (.tuple #[.int .i64 (p : Int), .bool df])) (w' := w') (by first | rfl | (go_simp; done) | (simp [go_sem]; done) | (simp [execOp, go_sem]; done)) ?_
      exact ⟨x31, x32, x33, (.tuple #[.int .i64 (p : Int), .bool df]), (.tuple #[.int .i64 (p : Int), .bool df]), x35, x36, x9, by first | (simp only [Act.put, List.setIfInBounds_toArray, List.set_cons_succ, List.set_cons_zero]; done) | (simp only [Act.put, List.setIfInBounds_toArray, List.set_cons_succ, List.set_cons_zero]; rfl) | rfl, Below.then HBw.out (Below.refl _ _), fun h => (d0 (keep (by decide) h)), fun h => (Exists.elim (d1 (keep (by decide) h)) fun g h => ⟨g, h.1, lnt_grown h.2 (Below.refl _ _)⟩), fun h => (d2 (keep (by decide) h)), fun h => (d3 (keep (by decide) h)), fun _ => rfl, fun h => (d5 (keep (by decide) h)), fun h => (d6 (keep (by decide) h)), fun h => (d7 (keep (by decide) h))⟩
    · have hoj2 := hoj
      obtain rfl := Option.some.inj hoj
      have e4 := d4 (hwt ⟨4, .data⟩ (by simp) rfl)
      subst e4
      refine wpOp_value hoj2 rfl (v := (.int .i64 (p : Int))) (w' := w') (by first | rfl | (go_simp; done) | (simp [go_sem]; done) | (simp [execOp, go_sem]; done)) ?_
      exact ⟨x31, x32, x33, x34, (.tuple #[.int .i64 (p : Int), .bool df]), (.int .i64 (p : Int)), x36, x9, by first | (simp only [Act.put, List.setIfInBounds_toArray, List.set_cons_succ, List.set_cons_zero]; done) | (simp only [Act.put, List.setIfInBounds_toArray, List.set_cons_succ, List.set_cons_zero]; rfl) | rfl, Below.then HBw.out (Below.refl _ _), fun h => (d0 (keep (by decide) h)), fun h => (Exists.elim (d1 (keep (by decide) h)) fun g h => ⟨g, h.1, lnt_grown h.2 (Below.refl _ _)⟩), fun h => (d2 (keep (by decide) h)), fun h => (d3 (keep (by decide) h)), fun h => (d4 (keep (by decide) h)), fun _ => rfl, fun h => (d6 (keep (by decide) h)), fun h => (d7 (keep (by decide) h))⟩
    · have hoj2 := hoj
      obtain rfl := Option.some.inj hoj
      have e4 := d4 (hwt ⟨4, .data⟩ (by simp) rfl)
      subst e4
      refine wpOp_value hoj2 rfl (v := (.bool df)) (w' := w') (by first | rfl | (go_simp; done) | (simp [go_sem]; done) | (simp [execOp, go_sem]; done)) ?_
      exact ⟨x31, x32, x33, x34, (.tuple #[.int .i64 (p : Int), .bool df]), x35, (.bool df), x9, by first | (simp only [Act.put, List.setIfInBounds_toArray, List.set_cons_succ, List.set_cons_zero]; done) | (simp only [Act.put, List.setIfInBounds_toArray, List.set_cons_succ, List.set_cons_zero]; rfl) | rfl, Below.then HBw.out (Below.refl _ _), fun h => (d0 (keep (by decide) h)), fun h => (Exists.elim (d1 (keep (by decide) h)) fun g h => ⟨g, h.1, lnt_grown h.2 (Below.refl _ _)⟩), fun h => (d2 (keep (by decide) h)), fun h => (d3 (keep (by decide) h)), fun h => (d4 (keep (by decide) h)), fun h => (d5 (keep (by decide) h)), fun _ => rfl, fun h => (d7 (keep (by decide) h))⟩
    · have hoj2 := hoj
      obtain rfl := Option.some.inj hoj
      have e5 := d5 (hwt ⟨5, .data⟩ (by simp) rfl)
      subst e5
      refine wpOp_value hoj2 rfl (v := (.int .i64 (p : Int))) (w' := w') (by first | rfl | (go_simp; done) | (simp [go_sem]; done) | (simp [execOp, go_sem]; done)) ?_
      exact ⟨x31, x32, x33, x34, x30, (.int .i64 (p : Int)), x36, (.int .i64 (p : Int)), by first | (simp only [Act.put, List.setIfInBounds_toArray, List.set_cons_succ, List.set_cons_zero]; done) | (simp only [Act.put, List.setIfInBounds_toArray, List.set_cons_succ, List.set_cons_zero]; rfl) | rfl, Below.then HBw.out (Below.refl _ _), fun h => (d0 (keep (by decide) h)), fun h => (Exists.elim (d1 (keep (by decide) h)) fun g h => ⟨g, h.1, lnt_grown h.2 (Below.refl _ _)⟩), fun h => (d2 (keep (by decide) h)), fun h => (d3 (keep (by decide) h)), fun h => (d4 (keep (by decide) h)), fun h => (d5 (keep (by decide) h)), fun h => (d6 (keep (by decide) h)), fun _ => rfl⟩
  case iend =>
    rintro a' w' ⟨x31, x32, x33, x34, x30, x35, x36, x9, rfl, HBw, d0, d1, d2, d3, d4, d5, d6, d7⟩
    replace d0 := d0 rfl
    replace d1 := d1 rfl
    replace d2 := d2 rfl
    replace d3 := d3 rfl
    replace d4 := d4 rfl
    replace d5 := d5 rfl
    replace d6 := d6 rfl
    replace d7 := d7 rfl
    simp only [Act.put, List.setIfInBounds_toArray, List.set_cons_succ, List.set_cons_zero]
    simp only [List.drop_succ_cons, List.drop_zero]
    obtain ⟨g, e32, L4⟩ := d1
    subst e32 d0 d2 d3 d4 d5 d6 d7
    have B35 := HBw.out
    have I5 := I3.grown B35
    clear HBw L4 hLent hFp
    go_wp2_with (first
      | (refine wpList_loadF rfl _ rfl rfl I5 ?_)
      | (go_at_call 23; refine (hRp _ ps cs (Ss.below B35)).mono ?_; rintro e w6 ⟨rfl, B6⟩; have B36 := Below.then B35 B6; clear I5 hRp))
    go_loopw [13] (fun i wr => ∃ k : Nat, k ≤ m2 ∧ i = .int .i64 (k : Int) ∧ Below w3.heap.size w3 wr) (fun i _ => m2 - (intOf i).toNat)
    case atStart => exact ⟨0, Nat.zero_le _, rfl, B36⟩
    case round =>
      obtain ⟨k, hk, rfl, BR⟩ := hrel
      by_cases hlt : k < m2
      · have hiX : (k : Int) < (m2 : Int) := by omega
        by_cases h50 : k < 50
        · have h50i : (k : Int) < 50 := by omega
          obtain ⟨b, o, ea, HB, HX⟩ := seg_elem (St.below BR) k (by rw [HM2.out]; exact hlt)
          cases ea
          generalize SB.getD k FS.zero = X at *
          have hf1 := fun W (h : Below w3.heap.size w3 W) => hFind W ps cs X (Ss.below h)
          have hf2 := fun W (h : Below w3.heap.size w3 W) => hRFind W ps cs X (Ss.below h)
          generalize decide (X ∈ SA) = dx at *
          have tx : True := trivial
          go_wp2_with (first
            | (clear tx; refine wpList_loadE (x := X) rfl _ rfl rfl HX ?_)
            | (go_at_call 22; refine (hf1 _ BR).mono ?_; rintro e w7 ⟨r, HR7, rfl, B7⟩; have B37 := Below.then BR B7; have HX7 : w7.rangeAt b (o + k * 49) (encF X) := range_below HX B7 HB; have HR7' : Hid (FindAt SA X r) := HR7; have ty : True := trivial; clear HX HR7)
            | (clear ty; refine wpList_loadE (x := X) rfl _ rfl rfl HX7 ?_)
            | (go_at_call 23; refine (hf2 _ B37).mono ?_; rintro e w8 ⟨r', HR8, rfl, B8⟩; have er : r = r' := HR7'.out.uniq HR8; subst er; have B38 := Below.then B37 B8; clear HX7 HR8 HR7'))
          go_roundw
          case rel => exact ⟨k + 1, by omega, by go_num, B38⟩
          case measure => simp [intOf]; omega
        · have h50i : ¬ ((k : Int) < 50) := by omega
          have h3c := h3b wr ps pt cs ct (Ss.below BR) (St.below BR) Zs Zt
          clear hFind hRFind h3b
          go_wp2_with (first
            | (go_at_call 21; refine h3c.mono ?_; rintro e w9 ⟨rfl, B9⟩))
          go_ret
          exact ⟨rfl, Below.then B03 (Below.then BR B9)⟩
      · have hiX : ¬ ((k : Int) < (m2 : Int)) := by omega
        have h3c := h3b wr ps pt cs ct (Ss.below BR) (St.below BR) Zs Zt
        clear hFind hRFind h3b
        go_wp2_with (first
          | (go_at_call 21; refine h3c.mono ?_; rintro e w9 ⟨rfl, B9⟩))
        go_ret
        exact ⟨rfl, Below.then B03 (Below.then BR B9)⟩
set_option maxRecDepth 100000 in
set_option maxHeartbeats 2000000 in
theorem sets_any (xs ys : List FS) (f : FS) (a1 a2 : Option Addr) (n1 n2 c1 c2 : Nat) (w : World) (hl1 : xs.length = n1) (hl2 : ys.length = n2) (hS1 : Seg w a1 (flatF xs)) (hS2 : Seg w a2 (flatF ys)) (hz1 : a1 = none → c1 = 0) (hz2 : a2 = none → c2 = 0) (hn1 : n1 ≤ 4611686018427387903) (hn2 : n2 ≤ 4611686018427387903) :
    Calls Try.prog 4 #[.slice a1 n1 c1, .slice a2 n2 c2, .agg (encF f).toArray] w fun e w' => e = .returned (.bool true) ∧ Below w.heap.size w w' := by
  by_cases h : n1 + n2 ≤ 4000
  · exact sets_few xs ys f a1 a2 n1 n2 c1 c2 w hl1 hl2 hS1 hS2 hz1 hz2 h
  · have hF := fun W => few_any a1 a2 n1 n2 c1 c2 hn1 hn2 W
    rw [decide_eq_false h] at hF
    clear hS1 hS2 hl1 hl2
    have ta : True := trivial
    go_enter Try.func4, Try.ntmps4
    go_wp2_with (first
      | (clear ta; refine wpList_boxS rfl _ _ rfl (encF f) rfl ?_; intro wa b1 Fa Ia; have Ba := fresh_b Fa)
      | (go_at_call 7; refine (hF _).mono ?_; rintro e w' ⟨rfl, hw'⟩; replace hw' := hw'.symm; subst hw'; clear hF))
    go_ret
    exact ⟨rfl, Ba⟩
end Go.Proofs.Ytbhgchhoeokjhaa

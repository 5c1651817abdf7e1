/- The law's helper three: Union, Meet and Minus against the reference's, each answer its holder's. -/
import Derived.Test.YtbhgchhoeokjhaaR2
import Derived.Test.YtbhgchhoeokjhaaLO1
namespace Go.Proofs.Ytbhgchhoeokjhaa
open Go Go.RowKit M
set_option linter.unusedSimpArgs false
set_option linter.unusedVariables false

theorem own_seg' {w : World} {B n c : Nat} {a : Option Addr} {l : List FS} (h : OwnL w B (.slice a n c) l) : Seg w a (flatF l) := by
  obtain ⟨a', c', e, s⟩ := own_seg h
  injection e with e1 e2 e3
  rw [e1]; exact s
/-- A row of one's own whose block lies between two numbers. -/
structure OwnR (w : World) (lo hi : Nat) (v : Value) (l : List FS) : Prop where
  own : OwnL w lo v l
  top : ∀ k, v.ownBlock = some k → k < hi
theorem OwnR.of {w : World} {B : Nat} {v : Value} {l : List FS} (h : OwnL w B v l) : OwnR w B w.heap.size v l := ⟨h, fun k hk => (h.lt k hk).2⟩
theorem OwnR.below {w W : World} {lo hi : Nat} {v : Value} {l : List FS} (h : OwnR w lo hi v l) (hB : Below w.heap.size w W) : OwnR W lo hi v l := ⟨own_belowW h.own hB, h.top⟩
theorem OwnR.spoil {w W : World} {lo hi lo' hi' : Nat} {v u : Value} {l m : List FS} (h : OwnR w lo hi v l) (hu : OwnR w lo' hi' u m) (hg : w.grownBy W u.ownBlock) (hd : hi' ≤ lo ∨ hi ≤ lo') : OwnR W lo hi v l :=
  ⟨own_grown h.own hg fun k hk e => by
    have h1 := (h.own.lt k hk).1
    have h2 := h.top k hk
    have h3 := (hu.own.lt k e).1
    have h4 := hu.top k e
    omega, h.top⟩
theorem OwnR.seg {w : World} {lo hi n c : Nat} {a : Option Addr} {l : List FS} (h : OwnR w lo hi (.slice a n c) l) : Seg w a (flatF l) := own_seg' h.own
theorem lnt_spoil {w W : World} {g lo hi : Nat} {l m : List FS} {u : Value} (h : Lnt w g l) (hu : OwnR w lo hi u m) (hg : w.grownBy W u.ownBlock) (hd : g < lo) : Lnt W g l :=
  (hg.block g (IsS.lt h) fun e => by have := (hu.own.lt g e.symm).1; omega).trans h
theorem below_spoil {w0 w W : World} {lo hi : Nat} {u : Value} {m : List FS} (h : Below w0.heap.size w0 w) (hu : OwnR w lo hi u m) (hg : w.grownBy W u.ownBlock) (hd : w0.heap.size ≤ lo) : Below w0.heap.size w0 W :=
  below_grown h hg h.size fun k hk => Nat.le_trans hd (hu.own.lt k hk).1
theorem lnt_slh {w : World} {g n : Nat} {l : List FS} (h : Lnt w g l) (hl : l.length = n) (hn : n ≤ 8000) : SlH w (some ⟨g, 0, none⟩) n (n + 1) l := ⟨hl, Nat.le_succ _, by unfold maxLen; omega, lnt_seg h⟩
theorem lnt_grown {w W : World} {g : Nat} {l : List FS} (h : Lnt w g l) (hB : Below w.heap.size w W) : Lnt W g l := IsS.grown h hB
set_option maxRecDepth 100000 in
set_option maxHeartbeats 4000000 in
theorem three_any (xs ys : List FS) (a1 a2 : Option Addr) (n1 n2 c1 c2 : Nat) (w : World) (hl1 : xs.length = n1) (hl2 : ys.length = n2) (hS1 : Seg w a1 (flatF xs)) (hS2 : Seg w a2 (flatF ys)) (hz1 : a1 = none → c1 = 0) (hz2 : a2 = none → c2 = 0) (hn1 : n1 ≤ 4000) (hn2 : n2 ≤ 4000) :
    Calls Try.prog 21 #[.slice a1 n1 c1, .slice a2 n2 c2] w fun e w' => e = .returned (.bool true) ∧ Below w.heap.size w w' := by
  have hL1 := fun W (h : Seg W a1 (flatF xs)) => lent_any a1 c1 xs (by omega) W h
  have hL2 := fun W (h : Seg W a2 (flatF ys)) => lent_any a2 c2 ys (by omega) W h
  have hK1 := fun W (g : Nat) (h : Lnt W g xs) (h2 : Seg W a1 (flatF xs)) => back_any a1 c1 xs (by omega) g W h h2
  have hK2 := fun W (g : Nat) (h : Lnt W g ys) (h2 : Seg W a2 (flatF ys)) => back_any a2 c2 ys (by omega) g W h h2
  simp only [hl1] at hL1 hK1
  simp only [hl2] at hL2 hK2
  have hU := fun W (g1 g2 : Nat) (h1 : Lnt W g1 xs) (h2 : Lnt W g2 ys) => union_any xs ys (some ⟨g1, 0, none⟩) (some ⟨g2, 0, none⟩) n1 n2 (n1 + 1) (n2 + 1) W (lnt_slh h1 hl1 (by omega)) (lnt_slh h2 hl2 (by omega)) (by omega) (by omega)
  have hM := fun W (g1 g2 : Nat) (h1 : Lnt W g1 xs) (h2 : Lnt W g2 ys) => meet_any xs ys (some ⟨g1, 0, none⟩) (some ⟨g2, 0, none⟩) n1 n2 (n1 + 1) (n2 + 1) W (lnt_slh h1 hl1 (by omega)) (lnt_slh h2 hl2 (by omega)) (by omega) (by omega)
  have hN := fun W (g1 g2 : Nat) (h1 : Lnt W g1 xs) (h2 : Lnt W g2 ys) => minus_any xs ys (some ⟨g1, 0, none⟩) (some ⟨g2, 0, none⟩) n1 n2 (n1 + 1) (n2 + 1) W (lnt_slh h1 hl1 (by omega)) (lnt_slh h2 hl2 (by omega)) (by omega) (by omega)
  have hX := fun W (h1 : Seg W a1 (flatF xs)) (h2 : Seg W a2 (flatF ys)) => rtwo_union xs ys a1 a2 n1 n2 c1 c2 W hl1 hl2 h1 h2 hz1 hz2 (by omega) (by omega)
  have hY := fun W (h1 : Seg W a1 (flatF xs)) (h2 : Seg W a2 (flatF ys)) => rtwo_meet xs ys a1 a2 n1 n2 c1 c2 W hl1 hl2 h1 h2 hz1 hz2 (by omega) (by omega)
  have hZ := fun W (h1 : Seg W a1 (flatF xs)) (h2 : Seg W a2 (flatF ys)) => rtwo_minus xs ys a1 a2 n1 n2 c1 c2 W hl1 hl2 h1 h2 hz1 hz2 (by omega) (by omega)
  have q1 : (twoL orB xs ys).length ≤ 8000 := by have := twoL_le (f := orB) xs ys; omega
  have q2 : (twoL andB xs ys).length ≤ 8000 := by have := twoL_le (f := andB) xs ys; omega
  have q3 : (twoL subB xs ys).length ≤ 8000 := by have := twoL_le (f := subB) xs ys; omega
  generalize twoL orB xs ys = LU at *
  generalize twoL andB xs ys = LM at *
  generalize twoL subB xs ys = LN at *
  generalize twoE xs ys = E at *
  have hs1 := fun W (p q : Option Addr) (c d : Nat) (h1 : Seg W p (flatF LU)) (h2 : Seg W q (flatF LU)) => same_same p q c d LU (by omega) W h1 h2
  have hs2 := fun W (p q : Option Addr) (c d : Nat) (h1 : Seg W p (flatF LM)) (h2 : Seg W q (flatF LM)) => same_same p q c d LM (by omega) W h1 h2
  have hs3 := fun W (p q : Option Addr) (c d : Nat) (h1 : Seg W p (flatF LN)) (h2 : Seg W q (flatF LN)) => same_same p q c d LN (by omega) W h1 h2
  have hp := fun W (lo hi : Nat) v (l : List FS) (h : OwnR W lo hi v l) (hB : lo ≤ W.heap.size) (hn : l.length ≤ 8000) => spoil_any h.own hB hn
  have HQ1 : Hid (LU.length ≤ 8000) := q1
  have HQ2 : Hid (LM.length ≤ 8000) := q2
  have HQ3 : Hid (LN.length ≤ 8000) := q3
  obtain ⟨mu, hmu⟩ : ∃ m, LU.length = m := ⟨_, rfl⟩
  obtain ⟨mm, hmm⟩ : ∃ m, LM.length = m := ⟨_, rfl⟩
  obtain ⟨mn, hmn⟩ : ∃ m, LN.length = m := ⟨_, rfl⟩
  simp only [hmu] at hs1
  simp only [hmm] at hs2
  simp only [hmn] at hs3
  have HMU : Hid (LU.length = mu) := hmu
  have HMM : Hid (LM.length = mm) := hmm
  have HMN : Hid (LN.length = mn) := hmn
  have HS1 : Hid (Seg w a1 (flatF xs)) := hS1
  have HS2 : Hid (Seg w a2 (flatF ys)) := hS2
  have num := fun W => num_any E W
  clear hmu hmm hmn hS1 hS2 hl1 hl2 q1 q2 q3
  have t1 : True := trivial
  go_enter Try.func21, Try.ntmps21
  go_wp2_with (first
    | (clear t1; go_at_call 8; refine (hL1 _ HS1.out).mono ?_; rintro e w1 ⟨⟨g1, rfl, hg1, L1⟩, B1⟩; have kg1 : g1 < w1.heap.size := IsS.lt L1; have t2 : True := trivial; clear hL1)
    | (clear t2; go_at_call 8; refine (hL2 _ (HS2.out.below B1)).mono ?_; rintro e w2 ⟨⟨g2, rfl, hg2, L2⟩, B2⟩; have kg2 : g2 < w2.heap.size := IsS.lt L2; have M1 : Lnt w2 g1 xs := lnt_grown L1 B2; have B02 := Below.then B1 B2; have z12 := B2.size; clear hL2 L1)
    | (go_at_call 34; refine (hU _ g1 g2 M1 L2).mono ?_; rintro e w3 ⟨vu, rfl, O3, B3⟩; obtain ⟨au, cu, hvu, -⟩ := own_slice O3 HMU.out; subst hvu; have Ru := OwnR.of O3; have M3 := lnt_grown M1 B3; have N3 := lnt_grown L2 B3; have B03 := Below.then B02 B3; clear hU M1 L2 O3)
    | (go_at_call 35; refine (hM _ g1 g2 M3 N3).mono ?_; rintro e w4 ⟨vm, rfl, O4, B4⟩; obtain ⟨am, cm, hvm, -⟩ := own_slice O4 HMM.out; subst hvm; have Rm := OwnR.of O4; have Ru4 := Ru.below B4; have M4 := lnt_grown M3 B4; have N4 := lnt_grown N3 B4; have B04 := Below.then B03 B4; clear hM M3 N3 O4 Ru)
    | (go_at_call 36; refine (hN _ g1 g2 M4 N4).mono ?_; rintro e w5 ⟨vn, rfl, O5, B5⟩; obtain ⟨an, cn, hvn, -⟩ := own_slice O5 HMN.out; subst hvn; have Rn := OwnR.of O5; have Ru5 := Ru4.below B5; have Rm5 := Rm.below B5; have M5 := lnt_grown M4 B5; have N5 := lnt_grown N4 B5; have B05 := Below.then B04 B5; have t5 : True := trivial; clear hN M4 N4 O5 Ru4 Rm)
    | (clear t5; go_at_call 37; refine (hX _ (HS1.out.below B05) (HS2.out.below B05)).mono ?_; rintro e w6 ⟨vx, rfl, O6, B6⟩; obtain ⟨ax, cx, hvx, -⟩ := own_slice O6 HMU.out; subst hvx; have Rx := OwnR.of O6; have B06 := Below.then B05 B6; have t6 : True := trivial; clear hX O6)
    | (clear t6; go_at_call 37; refine (hY _ (HS1.out.below B06) (HS2.out.below B06)).mono ?_; rintro e w7 ⟨vy, rfl, O7, B7⟩; obtain ⟨ay, cy, hvy, -⟩ := own_slice O7 HMM.out; subst hvy; have Ry := OwnR.of O7; have Rx7 := Rx.below B7; have B07 := Below.then B06 B7; have t7 : True := trivial; clear hY O7 Rx)
    | (clear t7; go_at_call 37; refine (hZ _ (HS1.out.below B07) (HS2.out.below B07)).mono ?_; rintro e w8 ⟨vz, rfl, O8, B8⟩; obtain ⟨az, cz, hvz, -⟩ := own_slice O8 HMN.out; subst hvz; have Rz := OwnR.of O8; have B08 := Below.then B07 B8; have B58 := Below.then (Below.then B6 B7) B8; have Ru8 := Ru5.below B58; have Rm8 := Rm5.below B58; have Rn8 := Rn.below B58; have Rx8 := Rx7.below B8; have Ry8 := Ry.below B8; have M8 := lnt_grown M5 B58; have N8 := lnt_grown N5 B58; have z23 := B3.size; have z34 := B4.size; have z45 := B5.size; have z56 := B6.size; have z67 := B7.size; have z78 := B8.size; have z01 := B1.size; have t8 : True := trivial; clear hZ O8 Ru5 Rm5 Rn Rx7 Ry M5 N5)
    | (go_at_call 11; refine (num _).mono ?_; rintro e w' ⟨rfl, hw'⟩; replace hw' := hw'.symm; subst hw')
    | (clear t8; go_at_call 18; refine (hs1 _ au ax cu cx Ru8.seg Rx8.seg).mono ?_; rintro e w9 ⟨rfl, B9⟩; have t9 : True := trivial; clear hs1)
    | (clear t9; go_at_call 18; refine (hs2 _ am ay cm cy (Rm8.below B9).seg (Ry8.below B9).seg).mono ?_; rintro e w10 ⟨rfl, B10⟩; have B810 := Below.then B9 B10; have t10 : True := trivial)
    | (clear t10; go_at_call 18; refine (hs3 _ an az cn cz (Rn8.below B810).seg (Rz.below B810).seg).mono ?_; rintro e w11 ⟨rfl, B11⟩; have B811 := Below.then B810 B11; have z811 := B811.size; have Ru11 := Ru8.below B811; have Rm11 := Rm8.below B811; have Rn11 := Rn8.below B811; have Ry11 := Ry8.below B811; have Rz11 := Rz.below B811; have M11 := lnt_grown M8 B811; have N11 := lnt_grown N8 B811; have B011 := Below.then B08 B811; have t11 : True := trivial; clear B9 B10 B11 B810 Ru8 Rm8 Rn8 Rx8 Ry8 Rz M8 N8 num)
    | (clear t11; go_at_call 20; refine (hp _ _ _ _ _ Ru11 (by omega) HQ1.out).mono ?_; rintro e w12 ⟨rfl, G12⟩; have Rm12 := Rm11.spoil Ru11 G12 (.inl (by omega)); have Rn12 := Rn11.spoil Ru11 G12 (.inl (by omega)); have Ry12 := Ry11.spoil Ru11 G12 (.inl (by omega)); have Rz12 := Rz11.spoil Ru11 G12 (.inl (by omega)); have M12 := lnt_spoil M11 Ru11 G12 (by omega); have N12 := lnt_spoil N11 Ru11 G12 (by omega); have B012 := below_spoil B011 Ru11 G12 (by omega); have z12' : w11.heap.size ≤ w12.heap.size := G12.size; have t12 : True := trivial; clear G12 Ru11 Rm11 Rn11 Ry11 Rz11 M11 N11)
    | (clear t12; go_at_call 18; refine (hs2 _ am ay cm cy Rm12.seg Ry12.seg).mono ?_; rintro e w13 ⟨rfl, B13⟩; have t13 : True := trivial; clear hs2)
    | (clear t13; go_at_call 18; refine (hs3 _ an az cn cz (Rn12.below B13).seg (Rz12.below B13).seg).mono ?_; rintro e w14 ⟨rfl, B14⟩; have B1214 := Below.then B13 B14; have t14 : True := trivial)
    | (clear t14; go_at_call 19; refine (hK1 _ g1 (lnt_grown M12 B1214) (HS1.out.below (Below.then B012 B1214))).mono ?_; rintro e w15 ⟨rfl, B15⟩; have B1215 := Below.then B1214 B15; have t15 : True := trivial)
    | (clear t15; go_at_call 19; refine (hK2 _ g2 (lnt_grown N12 B1215) (HS2.out.below (Below.then B012 B1215))).mono ?_; rintro e w16 ⟨rfl, B16⟩; have B1216 := Below.then B1215 B16; have z1216 := B1216.size; have Rm16 := Rm12.below B1216; have Rn16 := Rn12.below B1216; have Rz16 := Rz12.below B1216; have M16 := lnt_grown M12 B1216; have N16 := lnt_grown N12 B1216; have B016 := Below.then B012 B1216; have t16 : True := trivial; clear B13 B14 B15 B16 B1214 B1215 Rm12 Rn12 Ry12 Rz12 M12 N12)
    | (clear t16; go_at_call 20; refine (hp _ _ _ _ _ Rm16 (by omega) HQ2.out).mono ?_; rintro e w17 ⟨rfl, G17⟩; have Rn17 := Rn16.spoil Rm16 G17 (.inl (by omega)); have Rz17 := Rz16.spoil Rm16 G17 (.inl (by omega)); have M17 := lnt_spoil M16 Rm16 G17 (by omega); have N17 := lnt_spoil N16 Rm16 G17 (by omega); have B017 := below_spoil B016 Rm16 G17 (by omega); have z17 : w16.heap.size ≤ w17.heap.size := G17.size; have t17 : True := trivial; clear G17 Rm16 Rn16 Rz16 M16 N16)
    | (clear t17; go_at_call 18; refine (hs3 _ an az cn cz Rn17.seg Rz17.seg).mono ?_; rintro e w18 ⟨rfl, B18⟩; have t18 : True := trivial; clear hs3)
    | (clear t18; go_at_call 19; refine (hK1 _ g1 (lnt_grown M17 B18) (HS1.out.below (Below.then B017 B18))).mono ?_; rintro e w19 ⟨rfl, B19⟩; have B1719 := Below.then B18 B19; have t19 : True := trivial)
    | (clear t19; go_at_call 19; refine (hK2 _ g2 (lnt_grown N17 B1719) (HS2.out.below (Below.then B017 B1719))).mono ?_; rintro e w20 ⟨rfl, B20⟩; have B1720 := Below.then B1719 B20; have z1720 := B1720.size; have Rn20 := Rn17.below B1720; have M20 := lnt_grown M17 B1720; have N20 := lnt_grown N17 B1720; have B020 := Below.then B017 B1720; have t20 : True := trivial; clear B18 B19 B20 B1719 Rn17 Rz17 M17 N17)
    | (clear t20; go_at_call 20; refine (hp _ _ _ _ _ Rn20 (by omega) HQ3.out).mono ?_; rintro e w21 ⟨rfl, G21⟩; have M21 := lnt_spoil M20 Rn20 G21 (by omega); have N21 := lnt_spoil N20 Rn20 G21 (by omega); have B021 := below_spoil B020 Rn20 G21 (by omega); have t21 : True := trivial; clear G21 Rn20 M20 N20)
    | (clear t21; go_at_call 19; refine (hK1 _ g1 M21 (HS1.out.below B021)).mono ?_; rintro e w22 ⟨rfl, B22⟩; have t22 : True := trivial)
    | (clear t22; go_at_call 19; refine (hK2 _ g2 (lnt_grown N21 B22) (HS2.out.below (Below.then B021 B22))).mono ?_; rintro e w23 ⟨rfl, B23⟩))
  go_ret
  exact ⟨rfl, Below.then (Below.then B021 B22) B23⟩
end Go.Proofs.Ytbhgchhoeokjhaa

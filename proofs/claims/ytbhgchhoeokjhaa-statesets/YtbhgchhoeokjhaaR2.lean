/- Two of the reference: union, meet and difference. -/
import Derived.Test.YtbhgchhoeokjhaaRF
import Derived.Test.YtbhgchhoeokjhaaCH
namespace Go.Proofs.Ytbhgchhoeokjhaa
open Go Go.RowKit M
set_option linter.unusedSimpArgs false
set_option linter.unusedVariables false

section
variable {w : World} {ops : Array Oper} {rest : List Oper} {op : Oper} {a : Act} {Q : Exit → Act → World → Prop}
theorem wpList_b0L (hgd : op.guard = none) (ho : op.op = .buildSlice 22 0 #[])
    (h : ∀ W v, Below w.heap.size w W → OwnL W w.heap.size v [] → wpList Try.prog ops Q rest (a.put op.dst v) W) : wpList Try.prog ops Q (op :: rest) a w := by
  refine wpList_plain hgd fun K hK => ?_
  unfold Oper.wp
  rw [exec_build0 eFin ho]
  exact hK _ _ (h _ _ (fresh_b (Fresh.alloc w _)) (own_build0 eFin w))
theorem wpList_appL (hgd : op.guard = none) (s x : Operand) (ho : op.op = .call { callee := .builtin .append, args := #[s, x], argTypes := #[22, 22] })
    (B : Nat) (v : Value) (l : List FS) (hs : a.eval s = v) (hown : OwnL w B v l) (u : Value) (m : List FS) (hx : a.eval x = u) (hu : RowV w u m.length (flatF m)) (hn : l.length + m.length ≤ 4194304) (hB : B ≤ w.heap.size)
    (h : ∀ v' w', OwnL w' B v' (l ++ m) → w.grownBy w' v.ownBlock → wpList Try.prog ops Q rest (a.put op.dst v') w') : wpList Try.prog ops Q (op :: rest) a w := by
  refine wpList_appM eFin hgd s x ho B v l.length (flatF l) hs hown _ m.length (flatF m) hx hu (flatF_len _) (flatF_one _) hn hB fun v' w' h1 h2 => h v' w' ?_ h2
  unfold OwnL
  rw [List.length_append, flatF_append]
  exact h1
end
theorem range_below {w W : World} {b o : Nat} {cs : List Value} (h : w.rangeAt b o cs) (hB : Below w.heap.size w W) (hb : b < w.heap.size) : W.rangeAt b o cs := fun i u hu => by rw [hB.cell (p := ⟨b, o + i, none⟩) hb]; exact h i u hu
theorem filter_take {p : FS → Bool} {xs : List FS} {k : Nat} {X : FS} (h : xs.take (k + 1) = xs.take k ++ [X]) : (xs.take (k + 1)).filter p = if p X then (xs.take k).filter p ++ [X] else (xs.take k).filter p := by
  rw [h, List.filter_append]
  cases hp : p X <;> simp [hp]
set_option maxRecDepth 100000 in
set_option maxHeartbeats 4000000 in
theorem rtwo_union (xs ys : List FS) (a1 a2 : Option Addr) (n1 n2 c1 c2 : Nat) (w : World) (hl1 : xs.length = n1) (hl2 : ys.length = n2) (hS1 : Seg w a1 (flatF xs)) (hS2 : Seg w a2 (flatF ys)) (hz1 : a1 = none → c1 = 0) (hz2 : a2 = none → c2 = 0) (hn1 : n1 ≤ 8000) (hn2 : n2 ≤ 8000) :
    Calls Try.prog 37 #[.int .i64 0, .slice a1 n1 c1, .slice a2 n2 c2] w fun e w' => ∃ v, e = .returned (.tuple #[v, .int .i64 (twoE xs ys)]) ∧ OwnL w' w.heap.size v (twoL orB xs ys) ∧ Below w.heap.size w w' := by
  have hR1 := fun W (h : Seg W a1 (flatF xs)) => rrises_any a1 c1 xs (by rw [hl1]; omega) W h
  have hR2 := fun W (h : Seg W a2 (flatF ys)) => rrises_any a2 c2 ys (by rw [hl2]; omega) W h
  simp only [hl1] at hR1
  simp only [hl2] at hR2
  have HS1 : Hid (Seg w a1 (flatF xs)) := hS1
  have HS2 : Hid (Seg w a2 (flatF ys)) := hS2
  have HL1 : Hid (xs.length = n1) := hl1
  have HL2 : Hid (ys.length = n2) := hl2
  have hi1 : (n1 : Int) ≤ 8000 := by omega
  clear hS1 hS2 hl1 hl2
  have ta : True := trivial
  cases s1 : setB xs with
  | false =>
    have e1 : twoE xs ys = 100 := by unfold twoE; rw [s1]; simp
    have e2 : twoL orB xs ys = [] := by unfold twoL; rw [s1]; simp
    rw [e1, e2]
    simp only [s1] at hR1
    clear hR2 e1 e2
    go_enter Try.func37, Try.ntmps37
    go_wp2_with (first
      | (go_at_call 17; refine (hR1 _ HS1.out).mono ?_; rintro e W2 ⟨rfl, B2⟩))
    go_ret2
    exact ⟨_, rfl, World.ownsRow_nil _ _ _ _, B2⟩
  | true =>
    simp only [s1] at hR1
    cases s2 : setB ys with
    | false =>
      have e1 : twoE xs ys = 100 := by unfold twoE; rw [s2]; simp
      have e2 : twoL orB xs ys = [] := by unfold twoL; rw [s2]; simp
      rw [e1, e2]
      simp only [s2] at hR2
      clear e1 e2
      go_enter Try.func37, Try.ntmps37
      go_wp2_with (first
        | (clear ta; go_at_call 17; refine (hR1 _ HS1.out).mono ?_; rintro e W2 ⟨rfl, B2⟩; have tc : True := trivial)
        | (clear tc; go_at_call 17; refine (hR2 _ (HS2.out.below B2)).mono ?_; rintro e W3 ⟨rfl, B3⟩))
      go_ret2
      exact ⟨_, rfl, World.ownsRow_nil _ _ _ _, Below.then B2 B3⟩
    | true =>
      have HE1 : Hid (twoE xs ys = 0) := by show _ = _; unfold twoE; rw [s1, s2]; simp
      have q1 : IsSet xs := (setB_set xs).1 s1
      have q2 : IsSet ys := (setB_set ys).1 s2
      simp only [s2] at hR2
      have HE2 : Hid (twoL orB xs ys = setF (xs ++ ys)) := by show _ = _; unfold twoL; rw [s1, s2, ← two_union q1 q2]; simp
      have hSort : ∀ W v, OwnL W w.heap.size v (xs ++ ys) → ∃ a c, v = .slice a (xs ++ ys).length c ∧ Calls Try.prog 10 #[.slice a (xs ++ ys).length c] W fun e w' => ∃ v, e = .returned v ∧ OwnL w' W.heap.size v (setF (xs ++ ys)) ∧ Below W.heap.size W w' := fun W v h => by
        obtain ⟨a, c, e, hs⟩ := own_seg h
        exact ⟨a, c, e, rsort_any a c (xs ++ ys) (by rw [List.length_append, HL1.out, HL2.out]; omega) W hs⟩
      have hV1 : Hid (RowV w (.slice a1 n1 c1) xs.length (flatF xs)) := ⟨a1, c1, by rw [HL1.out], HS1.out, hz1⟩
      have hV2 : Hid (RowV w (.slice a2 n2 c2) ys.length (flatF ys)) := ⟨a2, c2, by rw [HL2.out], HS2.out, hz2⟩
      clear s1 s2 q1 q2
      have td : True := trivial
      have te : True := trivial
      go_enter Try.func37, Try.ntmps37
      go_wp2_with (first
        | (clear ta; go_at_call 17; refine (hR1 _ HS1.out).mono ?_; rintro e W2 ⟨rfl, B2⟩; have tc : True := trivial)
        | (clear tc; go_at_call 17; refine (hR2 _ (HS2.out.below B2)).mono ?_; rintro e W3 ⟨rfl, B3⟩; have B13 := Below.then B2 B3; clear hR1 hR2)
        | (refine wpList_b0L rfl rfl ?_; intro W4 v4 B4 O4x; have B14 := Below.then B13 B4; have O4 : OwnL W4 w.heap.size v4 [] := own_base O4x B13.size; clear O4x)
        | (clear td; at_builtin; refine wpList_appL rfl _ _ rfl w.heap.size v4 [] rfl O4 (.slice a1 n1 c1) xs rfl (hV1.out.below B14) (by rw [HL1.out]; simp; omega) B14.size ?_; intro v5 W5 O5 G5; have B15 := grown_below B14 O4 B14.size G5; rw [List.nil_append] at O5)
        | (clear te; at_builtin; refine wpList_appL rfl _ _ rfl w.heap.size v5 xs rfl O5 (.slice a2 n2 c2) ys rfl (hV2.out.below B15) (by rw [HL1.out, HL2.out]; omega) B15.size ?_; intro v6 W6 O6 G6; have B16 := grown_below B15 O5 B15.size G6; obtain ⟨a6, c6, hv6, hs6⟩ := hSort W6 v6 O6; subst hv6; clear hSort; generalize (xs ++ ys).length = n6 at *)
        | (go_at_call 10; refine hs6.mono ?_; rintro e W7 ⟨v7, rfl, O7, B7⟩))
      go_ret2
      exact ⟨_, by rw [HE1.out]; rfl, by rw [HE2.out]; exact own_base O7 B16.size, Below.then B16 B7⟩
set_option maxRecDepth 100000 in
set_option maxHeartbeats 4000000 in
theorem rtwo_meet (xs ys : List FS) (a1 a2 : Option Addr) (n1 n2 c1 c2 : Nat) (w : World) (hl1 : xs.length = n1) (hl2 : ys.length = n2) (hS1 : Seg w a1 (flatF xs)) (hS2 : Seg w a2 (flatF ys)) (hz1 : a1 = none → c1 = 0) (hz2 : a2 = none → c2 = 0) (hn1 : n1 ≤ 8000) (hn2 : n2 ≤ 8000) :
    Calls Try.prog 37 #[.int .i64 1, .slice a1 n1 c1, .slice a2 n2 c2] w fun e w' => ∃ v, e = .returned (.tuple #[v, .int .i64 (twoE xs ys)]) ∧ OwnL w' w.heap.size v (twoL andB xs ys) ∧ Below w.heap.size w w' := by
  have hR1 := fun W (h : Seg W a1 (flatF xs)) => rrises_any a1 c1 xs (by rw [hl1]; omega) W h
  have hR2 := fun W (h : Seg W a2 (flatF ys)) => rrises_any a2 c2 ys (by rw [hl2]; omega) W h
  simp only [hl1] at hR1
  simp only [hl2] at hR2
  have HS1 : Hid (Seg w a1 (flatF xs)) := hS1
  have HS2 : Hid (Seg w a2 (flatF ys)) := hS2
  have HL1 : Hid (xs.length = n1) := hl1
  have HL2 : Hid (ys.length = n2) := hl2
  have hi1 : (n1 : Int) ≤ 8000 := by omega
  clear hS1 hS2 hl1 hl2
  have ta : True := trivial
  cases s1 : setB xs with
  | false =>
    have e1 : twoE xs ys = 100 := by unfold twoE; rw [s1]; simp
    have e2 : twoL andB xs ys = [] := by unfold twoL; rw [s1]; simp
    rw [e1, e2]
    simp only [s1] at hR1
    clear hR2 e1 e2
    go_enter Try.func37, Try.ntmps37
    go_wp2_with (first
      | (go_at_call 17; refine (hR1 _ HS1.out).mono ?_; rintro e W2 ⟨rfl, B2⟩))
    go_ret2
    exact ⟨_, rfl, World.ownsRow_nil _ _ _ _, B2⟩
  | true =>
    simp only [s1] at hR1
    cases s2 : setB ys with
    | false =>
      have e1 : twoE xs ys = 100 := by unfold twoE; rw [s2]; simp
      have e2 : twoL andB xs ys = [] := by unfold twoL; rw [s2]; simp
      rw [e1, e2]
      simp only [s2] at hR2
      clear e1 e2
      go_enter Try.func37, Try.ntmps37
      go_wp2_with (first
        | (clear ta; go_at_call 17; refine (hR1 _ HS1.out).mono ?_; rintro e W2 ⟨rfl, B2⟩; have tc : True := trivial)
        | (clear tc; go_at_call 17; refine (hR2 _ (HS2.out.below B2)).mono ?_; rintro e W3 ⟨rfl, B3⟩))
      go_ret2
      exact ⟨_, rfl, World.ownsRow_nil _ _ _ _, Below.then B2 B3⟩
    | true =>
      have HE1 : Hid (twoE xs ys = 0) := by show _ = _; unfold twoE; rw [s1, s2]; simp
      have q1 : IsSet xs := (setB_set xs).1 s1
      have q2 : IsSet ys := (setB_set ys).1 s2
      simp only [s2] at hR2
      obtain ⟨pf, hpf⟩ : ∃ p : FS → Bool, p = fun x => decide (x ∈ ys) := ⟨_, rfl⟩
      have HE2 : Hid (twoL andB xs ys = xs.filter pf) := by show _ = _; unfold twoL; rw [s1, s2, hpf, ← two_meet q1.1 q2.1]; simp
      have hFind := fun X W (h : Seg W a2 (flatF ys)) => rfind_any a2 c2 ys X (by rw [HL2.out]; exact hn2) q2.1 W h
      simp only [HL2.out] at hFind
      have HPF : Hid (∀ X, pf X = decide (X ∈ ys)) := fun X => by rw [hpf]
      clear hpf s1 s2 q1 q2
      go_enter Try.func37, Try.ntmps37
      go_wp2_with (first
        | (clear ta; go_at_call 17; refine (hR1 _ HS1.out).mono ?_; rintro e W2 ⟨rfl, B2⟩; have tc : True := trivial)
        | (clear tc; go_at_call 17; refine (hR2 _ (HS2.out.below B2)).mono ?_; rintro e W3 ⟨rfl, B3⟩; have B13 := Below.then B2 B3; clear hR1 hR2))
      go_loopw [8, 9] (fun v i wr => ∃ k : Nat, k ≤ n1 ∧ i = .int .i64 (k : Int) ∧ Hid (OwnL wr w.heap.size v ((xs.take k).filter pf)) ∧ Below w.heap.size w wr) (fun _ i _ => n1 - (intOf i).toNat)
      case atStart => exact ⟨0, Nat.zero_le _, rfl, World.ownsRow_nil _ _ _ _, B13⟩
      case round =>
        obtain ⟨k, hk, rfl, HO, BR⟩ := hrel
        have hsR := BR.size
        by_cases hlt : k < n1
        · have hiX : (k : Int) < (n1 : Int) := by omega
          have hkl : k < xs.length := by rw [HL1.out]; exact hlt
          obtain ⟨b, o, ea, HB, HX⟩ := seg_elem (HS1.out.below BR) k hkl
          subst ea
          have HT : Hid (xs.take (k + 1) = xs.take k ++ [xs.getD k FS.zero]) := take_snocF xs k hkl
          have hfl : ((xs.take k).filter pf).length ≤ k := Nat.le_trans (List.length_filter_le _ _) (by rw [List.length_take]; omega)
          have hF := hFind (xs.getD k FS.zero)
          have HPX := HPF.out (xs.getD k FS.zero)
          generalize xs.getD k FS.zero = X at *
          obtain ⟨d, hd⟩ : ∃ d, decide (X ∈ ys) = d := ⟨_, rfl⟩
          rw [hd] at HPX
          simp only [hd] at hF
          clear hd
          obtain ⟨a0, c0, hv0⟩ := own_form HO.out
          subst hv0
          have HO' := HO
          obtain ⟨m, hm⟩ : ∃ m, ((xs.take k).filter pf).length = m := ⟨_, rfl⟩
          rw [hm] at HO' hfl ⊢
          have HM : Hid (((xs.take k).filter pf).length = m) := hm
          clear HO hm
          cases d with
          | true =>
            have HF2 : Hid ((xs.take (k + 1)).filter pf = (xs.take k).filter pf ++ [X]) := by show _ = _; rw [filter_take HT.out, HPX]; rfl
            clear HPX HT
            have tb : True := trivial
            have t2 : True := trivial
            go_wp2_with (first
              | (clear t2; refine wpList_loadE (x := X) rfl _ rfl rfl HX ?_)
              | (go_at_call 23; refine (hF _ (HS2.out.below BR)).mono ?_; rintro e W4 ⟨p, -, rfl, B4⟩; have HB4 : b < W4.heap.size := Nat.lt_of_lt_of_le HB B4.size; have HX4 : W4.rangeAt b (o + k * 49) (encF X) := range_below HX B4 HB; have O4 := own_belowW HO'.out B4; have BR4 := Below.then BR B4; have t4 : True := trivial)
              | (clear t4; refine wpList_loadE (x := X) rfl _ rfl rfl HX4 ?_)
              | (clear tb; refine wpList_buildF rfl _ rfl X rfl ?_; intro W5 b5 F5 I5; have B5 := fresh_b F5; have O5 := own_belowW O4 B5; have BR5 := Below.then BR4 B5)
              | (at_builtin; refine wpList_appF rfl _ _ rfl w.heap.size (.slice a0 m c0) ((xs.take k).filter pf) rfl O5 b5 X rfl I5 (by rw [HM.out]; omega) BR5.size ?_; intro v6 W6 O6 G6; have B6 := grown_below BR5 O5 BR5.size G6))
            go_roundw
            case rel => exact ⟨k + 1, by omega, by go_num, by show OwnL _ _ _ _; rw [HF2.out]; exact O6, B6⟩
            case measure => simp [intOf]; omega
          | false =>
            have HF2 : Hid ((xs.take (k + 1)).filter pf = (xs.take k).filter pf) := by show _ = _; rw [filter_take HT.out, HPX]; rfl
            clear HPX HT
            go_wp2_with (first
              | (refine wpList_loadE (x := X) rfl _ rfl rfl HX ?_)
              | (go_at_call 23; refine (hF _ (HS2.out.below BR)).mono ?_; rintro e W4 ⟨p, -, rfl, B4⟩; have O4 := own_belowW HO'.out B4; have BR4 := Below.then BR B4))
            go_roundw
            case rel => exact ⟨k + 1, by omega, by go_num, by show OwnL _ _ _ _; rw [HF2.out]; exact O4, BR4⟩
            case measure => simp [intOf]; omega
        · have ek : k = n1 := by omega
          subst ek
          rw [List.take_of_length_le (by rw [HL1.out]; exact Nat.le_refl _)] at HO
          go_wp2
          go_ret2
          exact ⟨_, by rw [HE1.out]; rfl, by rw [HE2.out]; exact HO.out, BR⟩
set_option maxRecDepth 100000 in
set_option maxHeartbeats 4000000 in
theorem rtwo_minus (xs ys : List FS) (a1 a2 : Option Addr) (n1 n2 c1 c2 : Nat) (w : World) (hl1 : xs.length = n1) (hl2 : ys.length = n2) (hS1 : Seg w a1 (flatF xs)) (hS2 : Seg w a2 (flatF ys)) (hz1 : a1 = none → c1 = 0) (hz2 : a2 = none → c2 = 0) (hn1 : n1 ≤ 8000) (hn2 : n2 ≤ 8000) :
    Calls Try.prog 37 #[.int .i64 2, .slice a1 n1 c1, .slice a2 n2 c2] w fun e w' => ∃ v, e = .returned (.tuple #[v, .int .i64 (twoE xs ys)]) ∧ OwnL w' w.heap.size v (twoL subB xs ys) ∧ Below w.heap.size w w' := by
  have hR1 := fun W (h : Seg W a1 (flatF xs)) => rrises_any a1 c1 xs (by rw [hl1]; omega) W h
  have hR2 := fun W (h : Seg W a2 (flatF ys)) => rrises_any a2 c2 ys (by rw [hl2]; omega) W h
  simp only [hl1] at hR1
  simp only [hl2] at hR2
  have HS1 : Hid (Seg w a1 (flatF xs)) := hS1
  have HS2 : Hid (Seg w a2 (flatF ys)) := hS2
  have HL1 : Hid (xs.length = n1) := hl1
  have HL2 : Hid (ys.length = n2) := hl2
  have hi1 : (n1 : Int) ≤ 8000 := by omega
  clear hS1 hS2 hl1 hl2
  have ta : True := trivial
  cases s1 : setB xs with
  | false =>
    have e1 : twoE xs ys = 100 := by unfold twoE; rw [s1]; simp
    have e2 : twoL subB xs ys = [] := by unfold twoL; rw [s1]; simp
    rw [e1, e2]
    simp only [s1] at hR1
    clear hR2 e1 e2
    go_enter Try.func37, Try.ntmps37
    go_wp2_with (first
      | (go_at_call 17; refine (hR1 _ HS1.out).mono ?_; rintro e W2 ⟨rfl, B2⟩))
    go_ret2
    exact ⟨_, rfl, World.ownsRow_nil _ _ _ _, B2⟩
  | true =>
    simp only [s1] at hR1
    cases s2 : setB ys with
    | false =>
      have e1 : twoE xs ys = 100 := by unfold twoE; rw [s2]; simp
      have e2 : twoL subB xs ys = [] := by unfold twoL; rw [s2]; simp
      rw [e1, e2]
      simp only [s2] at hR2
      clear e1 e2
      go_enter Try.func37, Try.ntmps37
      go_wp2_with (first
        | (clear ta; go_at_call 17; refine (hR1 _ HS1.out).mono ?_; rintro e W2 ⟨rfl, B2⟩; have tc : True := trivial)
        | (clear tc; go_at_call 17; refine (hR2 _ (HS2.out.below B2)).mono ?_; rintro e W3 ⟨rfl, B3⟩))
      go_ret2
      exact ⟨_, rfl, World.ownsRow_nil _ _ _ _, Below.then B2 B3⟩
    | true =>
      have HE1 : Hid (twoE xs ys = 0) := by show _ = _; unfold twoE; rw [s1, s2]; simp
      have q1 : IsSet xs := (setB_set xs).1 s1
      have q2 : IsSet ys := (setB_set ys).1 s2
      simp only [s2] at hR2
      obtain ⟨pf, hpf⟩ : ∃ p : FS → Bool, p = fun x => !decide (x ∈ ys) := ⟨_, rfl⟩
      have HE2 : Hid (twoL subB xs ys = xs.filter pf) := by show _ = _; unfold twoL; rw [s1, s2, hpf, ← two_minus q1.1 q2.1]; simp
      have hFind := fun X W (h : Seg W a2 (flatF ys)) => rfind_any a2 c2 ys X (by rw [HL2.out]; exact hn2) q2.1 W h
      simp only [HL2.out] at hFind
      have HPF : Hid (∀ X, pf X = !decide (X ∈ ys)) := fun X => by rw [hpf]
      clear hpf s1 s2 q1 q2
      go_enter Try.func37, Try.ntmps37
      go_wp2_with (first
        | (clear ta; go_at_call 17; refine (hR1 _ HS1.out).mono ?_; rintro e W2 ⟨rfl, B2⟩; have tc : True := trivial)
        | (clear tc; go_at_call 17; refine (hR2 _ (HS2.out.below B2)).mono ?_; rintro e W3 ⟨rfl, B3⟩; have B13 := Below.then B2 B3; clear hR1 hR2))
      go_loopw [8, 9] (fun v i wr => ∃ k : Nat, k ≤ n1 ∧ i = .int .i64 (k : Int) ∧ Hid (OwnL wr w.heap.size v ((xs.take k).filter pf)) ∧ Below w.heap.size w wr) (fun _ i _ => n1 - (intOf i).toNat)
      case atStart => exact ⟨0, Nat.zero_le _, rfl, World.ownsRow_nil _ _ _ _, B13⟩
      case round =>
        obtain ⟨k, hk, rfl, HO, BR⟩ := hrel
        have hsR := BR.size
        by_cases hlt : k < n1
        · have hiX : (k : Int) < (n1 : Int) := by omega
          have hkl : k < xs.length := by rw [HL1.out]; exact hlt
          obtain ⟨b, o, ea, HB, HX⟩ := seg_elem (HS1.out.below BR) k hkl
          subst ea
          have HT : Hid (xs.take (k + 1) = xs.take k ++ [xs.getD k FS.zero]) := take_snocF xs k hkl
          have hfl : ((xs.take k).filter pf).length ≤ k := Nat.le_trans (List.length_filter_le _ _) (by rw [List.length_take]; omega)
          have hF := hFind (xs.getD k FS.zero)
          have HPX := HPF.out (xs.getD k FS.zero)
          generalize xs.getD k FS.zero = X at *
          obtain ⟨d, hd⟩ : ∃ d, decide (X ∈ ys) = d := ⟨_, rfl⟩
          rw [hd] at HPX
          simp only [hd] at hF
          clear hd
          obtain ⟨a0, c0, hv0⟩ := own_form HO.out
          subst hv0
          have HO' := HO
          obtain ⟨m, hm⟩ : ∃ m, ((xs.take k).filter pf).length = m := ⟨_, rfl⟩
          rw [hm] at HO' hfl ⊢
          have HM : Hid (((xs.take k).filter pf).length = m) := hm
          clear HO hm
          cases d with
          | false =>
            have HF2 : Hid ((xs.take (k + 1)).filter pf = (xs.take k).filter pf ++ [X]) := by show _ = _; rw [filter_take HT.out, HPX]; rfl
            clear HPX HT
            have tb : True := trivial
            have t2 : True := trivial
            go_wp2_with (first
              | (clear t2; refine wpList_loadE (x := X) rfl _ rfl rfl HX ?_)
              | (go_at_call 23; refine (hF _ (HS2.out.below BR)).mono ?_; rintro e W4 ⟨p, -, rfl, B4⟩; have HB4 : b < W4.heap.size := Nat.lt_of_lt_of_le HB B4.size; have HX4 : W4.rangeAt b (o + k * 49) (encF X) := range_below HX B4 HB; have O4 := own_belowW HO'.out B4; have BR4 := Below.then BR B4; have t4 : True := trivial)
              | (clear t4; refine wpList_loadE (x := X) rfl _ rfl rfl HX4 ?_)
              | (clear tb; refine wpList_buildF rfl _ rfl X rfl ?_; intro W5 b5 F5 I5; have B5 := fresh_b F5; have O5 := own_belowW O4 B5; have BR5 := Below.then BR4 B5)
              | (at_builtin; refine wpList_appF rfl _ _ rfl w.heap.size (.slice a0 m c0) ((xs.take k).filter pf) rfl O5 b5 X rfl I5 (by rw [HM.out]; omega) BR5.size ?_; intro v6 W6 O6 G6; have B6 := grown_below BR5 O5 BR5.size G6))
            go_roundw
            case rel => exact ⟨k + 1, by omega, by go_num, by show OwnL _ _ _ _; rw [HF2.out]; exact O6, B6⟩
            case measure => simp [intOf]; omega
          | true =>
            have HF2 : Hid ((xs.take (k + 1)).filter pf = (xs.take k).filter pf) := by show _ = _; rw [filter_take HT.out, HPX]; rfl
            clear HPX HT
            go_wp2_with (first
              | (refine wpList_loadE (x := X) rfl _ rfl rfl HX ?_)
              | (go_at_call 23; refine (hF _ (HS2.out.below BR)).mono ?_; rintro e W4 ⟨p, -, rfl, B4⟩; have O4 := own_belowW HO'.out B4; have BR4 := Below.then BR B4))
            go_roundw
            case rel => exact ⟨k + 1, by omega, by go_num, by show OwnL _ _ _ _; rw [HF2.out]; exact O4, BR4⟩
            case measure => simp [intOf]; omega
        · have ek : k = n1 := by omega
          subst ek
          rw [List.take_of_length_le (by rw [HL1.out]; exact Nat.le_refl _)] at HO
          go_wp2
          go_ret2
          exact ⟨_, by rw [HE1.out]; rfl, by rw [HE2.out]; exact HO.out, BR⟩
end Go.Proofs.Ytbhgchhoeokjhaa

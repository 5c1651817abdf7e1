/- rings: the numbers by how many steps they are away. -/
import Derived.Test.YtkccckjiemijeabDoorN1
import Derived.Deep.LoopGhost
namespace Go.Proofs.YtkccckjiemijeabDoor
open Go.RowKit Go.Shelf M P
set_option linter.unusedSimpArgs false
set_option linter.unusedVariables false

/-- The rings, as the program goes on from one. -/
def ringsF (R G : Nat → Nat) (a : Nat) : Nat → Nat → Nat → List Nat → Option (List Nat)
  | 0, _, _, _ => none
  | k + 1, seen, ring, home => if ring = 0 then none else if R a &&& ring ≠ 0 then some (home ++ [ring]) else ringsF R G a k (seen ||| ring) (notN (orF G (lst ring)) (seen ||| ring)) (home ++ [ring])
def encU (l : List Nat) : List Value := l.map fun n => Value.int .u64 (n : Nat)
theorem encU_len (l : List Nat) : (encU l).length = l.length := by simp [encU]
theorem info22' : (Tryd.prog.info? 22).map (fun i => (i.zero, i.size, i.bytes)) = some (some (.int .u64 0), 1, 8) := by kernel_rfl

theorem lst_more {s r : Nat} (hr : r < 18446744073709551616) (h0 : r ≠ 0) (hd : ∀ i, i < 64 → r.testBit i = true → s.testBit i = false) : (lst s).length + 1 ≤ (lst (s ||| r)).length := by
  have e1 : (lst (s ||| r)).length = (lst s).length + (lst r).length := by
    have key : ∀ l : List Nat, (∀ i ∈ l, i < 64) → (l.filter fun i => (s ||| r).testBit i).length = (l.filter fun i => s.testBit i).length + (l.filter fun i => r.testBit i).length := by
      intro l
      induction l with
      | nil => intro _; rfl
      | cons i l ih =>
        intro hl
        have := ih (fun j hj => hl j (List.mem_cons_of_mem _ hj))
        have hi := hd i (hl i (by simp))
        simp only [List.filter_cons, Nat.testBit_or]
        cases h1 : s.testBit i <;> cases h2 : r.testBit i
        · simpa [Nat.testBit_or] using this
        · simp only [Bool.false_or, Bool.or_true, if_true, Bool.false_eq_true, if_false, List.length_cons]
          simp only [Nat.testBit_or] at this
          omega
        · simp only [Bool.true_or, if_true, Bool.false_eq_true, if_false, List.length_cons]
          simp only [Nat.testBit_or] at this
          omega
        · rw [hi h2] at h1
          cases h1
    exact key (List.range 64) (fun i hi => by simpa using hi)
  have : 1 ≤ (lst r).length := by
    by_cases h : (lst r).length = 0
    · exact absurd (lst_empty hr h) h0
    · omega
  omega
theorem lst_len_le (s : Nat) : (lst s).length ≤ 64 := by
  have := List.length_filter_le (fun i => s.testBit i) (List.range 64)
  simpa [lst] using this
theorem not_apart {x s : Nat} (hs : s < 18446744073709551616) (i : Nat) (hi : i < 64) (h : (notN x s).testBit i = true) : s.testBit i = false := by
  unfold notN at h
  rw [Nat.testBit_and, Bool.and_eq_true, testBit_not _ _ hs hi] at h
  simpa using h.2

theorem own22_cells {W : World} {base n D : Nat} {v : Value} {xs : List Value} (h : W.ownsRow base 22 1 v n xs) (e : v.ownBlock = some D) : ∃ cur fz, W.heap[D]? = some (.cells cur 22 fz) := by
  rcases h.2 with ⟨rfl, _⟩ | ⟨g, cap, cur, rfl, _, hh, _⟩
  · cases e
  · cases e
    exact ⟨_, _, hh⟩
theorem isR_append {W W' : World} {base k b : Nat} {v : Value} {xs : List Value} {n : Int} {f : Nat → Nat} (own : W.ownsRow base 22 1 v k xs) (g : W.grownBy W' v.ownBlock) (r : IsR W b n f) : IsR W' b n f := by
  refine (g.block b r.lt (fun e => ?_)).trans r
  obtain ⟨cur, fz, hc⟩ := own22_cells own e.symm
  rw [show W.heap[b]? = _ from r] at hc
  cases hc

/-- What rings answers. -/
def RingAns (o : Option (List Nat)) (w : World) (e : Ending) (w' : World) : Prop :=
  Below w.heap.size w w' ∧ ((o = none ∧ e = .returned (.slice none 0 0)) ∨ ∃ l v, o = some l ∧ e = .returned v ∧ w'.ownsRow w.heap.size 22 1 v l.length (encU l))

set_option maxRecDepth 100000 in
set_option maxHeartbeats 2000000 in
theorem rings_any (n m : Int) (R G : Nat → Nat) (hR : Wf R) (hG : Wf G) (a : Nat) (ha : a < 64) (w : World) (hT : TabAt w) : Calls Tryd.prog 54 #[relv n R, relv m G, .int .i64 (a : Nat)] w (RingAns (ringsF R G a 65 0 (2 ^ a) []) w) := by
  have cb : Hid (∀ s, s < 18446744073709551616 → AnsV 59 #[relv m G, .int .u64 (s : Nat)] (.int .u64 (orF G (lst s) : Nat))) := fun s hs => before_any m G hG s hs
  obtain ⟨O, hO⟩ : ∃ O, O = ringsF R G a 65 0 (2 ^ a) [] := ⟨_, rfl⟩
  rw [← hO]
  have HR : Hid (Wf R) := hR
  have HG : Hid (Wf G) := hG
  clear hR hG
  obtain ⟨i0, hi, hz0, hz1, hz2⟩ := info_parts info22'
  have hai : (a : Int) < 64 := by omega
  have hp2 : 2 ^ a < 18446744073709551616 := pow_lt a ha
  have tk1 : True := trivial
  go_enter Tryd.func54, Tryd.ntmps54
  go_wp2_with (first
    | (refine wpList_boxR rfl _ rfl rfl ?_; clear tk1; intro W1 b3 F1 r3; have B1 := Fresh.trans (Below.refl _ w) (Nat.le_refl _) F1; clear F1)
    | (refine wpList_boxR rfl _ rfl rfl ?_; intro W2 b4 F2 r4; replace B1 := Fresh.trans B1 B1.size F2; replace r3 := r3.fresh F2; clear F2))
  try dsimp only [Act.put]
  have hpow : IntKind.u64.wrap ((2 : Int) ^ a) = (2 : Int) ^ a := by rw [wrap_pow a ha]; simp
  go_loopg [7, 8, 9] 65 (fun g s h r wr => ∃ (seen ring : Nat) (home : List Nat), s = .int .u64 (seen : Nat) ∧ r = .int .u64 (ring : Nat) ∧ Hid (seen < 18446744073709551616 ∧ ring < 18446744073709551616 ∧ (∀ i, i < 64 → ring.testBit i = true → seen.testBit i = false) ∧ ringsF R G a g seen ring home = O ∧ 65 ≤ g + (lst seen).length ∧ home.length + g ≤ 65) ∧ wr.ownsRow w.heap.size 22 1 h home.length (encU home) ∧ IsR wr b3 n R ∧ IsR wr b4 m G ∧ Below w.heap.size w wr)
  case atStart => exact ⟨0, 2 ^ a, [], rfl, by simp [hpow], ⟨by decide, hp2, fun i _ _ => by simp, hO.symm, by simp [lst_zero], by simp⟩, World.ownsRow_nil _ _ _ _, r3, r4, B1⟩
  case round =>
    clear r3 r4 B1 hO hpow hp2
    obtain ⟨seen, ring, home, rfl, rfl, HX, own, r3, r4, BB⟩ := hrel
    have hBs := BB.size
    by_cases h0 : ring = 0
    · have e : O = none := by
        obtain ⟨_, _, _, e, _, _⟩ := HX.out
        rw [← e]
        cases gk <;> simp [ringsF, h0]
      subst h0
      go_wp2
      go_ret
      exact ⟨BB, .inl ⟨e, rfl⟩⟩
    · have hne : ¬ ((ring : Nat) : Int) = 0 := by omega
      have own8 := own.alloc (.cells #[.int .u64 (ring : Nat)] 22)
      have hnews : Hid (∀ j u, ([.int .u64 (ring : Nat)] : List Value)[j]? = some u → (wr.alloc (.cells #[.int .u64 (ring : Nat)] 22)).cell? ((⟨wr.heap.size, 0, none⟩ : Addr).add j) = some u) := fun j u hj => by
        cases j with
        | zero => simp at hj; subst hj; exact (Boxed.new wr 22 _).cell
        | succ j => simp at hj
      have hhl : home.length ≤ 65 := by have := HX.out.2.2.2.2.2; omega
      have hor := u64_or_nat seen ring HX.out.1 HX.out.2.1
      have hand := u64_and_nat (R a) ring (HR.out a) HX.out.2.1
      have hsr : seen ||| ring < 18446744073709551616 := Nat.or_lt_two_pow (n := 64) HX.out.1 HX.out.2.1
      obtain ⟨g, rfl⟩ : ∃ g, gk = g + 1 := ⟨gk - 1, by have := HX.out.2.2.2.2.1; have := lst_len_le seen; omega⟩
      by_cases hh : R a &&& ring = 0
      · have han : ((R a &&& ring : Nat) : Int) = 0 := by omega
        have hA := cb.out ring HX.out.2.1
        have hnot := u64_andNot_nat (orF G (lst ring)) (seen ||| ring) (orF_lt HG.out _) hsr
        change bits .andNot .u64 (orF G (lst ring) : Int) ((seen ||| ring : Nat) : Int) = ((notN (orF G (lst ring)) (seen ||| ring) : Nat) : Int) at hnot
        have HY : Hid (seen ||| ring < 18446744073709551616 ∧ notN (orF G (lst ring)) (seen ||| ring) < 18446744073709551616 ∧ (∀ i, i < 64 → (notN (orF G (lst ring)) (seen ||| ring)).testBit i = true → (seen ||| ring).testBit i = false) ∧ ringsF R G a g (seen ||| ring) (notN (orF G (lst ring)) (seen ||| ring)) (home ++ [ring]) = O ∧ 65 ≤ g + (lst (seen ||| ring)).length ∧ (home ++ [ring]).length + g ≤ 65) := by
          obtain ⟨x1, x2, x3, x4, x5, x6⟩ := HX.out
          refine ⟨hsr, Nat.lt_of_le_of_lt Nat.and_le_left (orF_lt HG.out _), fun i hi h => not_apart hsr i hi h, ?_, ?_, by simp; omega⟩
          · rw [← x4]
            simp [ringsF, h0, hh]
          · have := lst_more x2 h0 x3
            omega
        clear HX hh
        generalize notN (orF G (lst ring)) (seen ||| ring) = nr at *
        generalize orF G (lst ring) = fr at *
        generalize seen ||| ring = sn at *
        generalize R a &&& ring = rr at *
        go_wp2_with (first
          | (at_builtin; refine wpList_append_own _ rfl (.tmp 22) (.tmp 24) 80 rfl w.heap.size 22 i0 (.int .u64 0) 1 8 Tryd.underlying80 hi hz0 hz1 hz2 rfl (by decide) _ home.length (encU home) rfl own8 ⟨wr.heap.size, 0, none⟩ 1 1 [.int .u64 (ring : Nat)] rfl rfl hnews.out (by simp [Value.oneCell']) (by unfold maxLen; omega) (by omega) (by simp; omega) ?_; intro v1 wa own1 grow1 hif1; clear hif1; have r3' := isR_append own8 grow1 (r3.alloc _); have r4' := isR_append own8 grow1 (r4.alloc _); have BC := (BB.alloc BB.size (.cells #[.int .u64 (ring : Nat)] 22)).grown grow1 (BB.alloc BB.size _).size (fun k e => (own8.lt k e).1); clear grow1 own8; have hrow := r3'.row a ha)
          | (refine wpList_loadR rfl _ rfl rfl r4' ?_)
          | (go_at_call 59; refine (hA _ (hT.below BC)).mono ?_; rintro e w' ⟨rfl, hw'⟩; replace r3' := r3'.grown hw'; replace r4' := r4'.grown hw'; have own2 := own_below own1 hw'; replace BC := BC.trans (hw'.mono BC.size); clear hw'))
        go_roundg g
        case measure => omega
        case rel => exact ⟨sn, nr, home ++ [ring], rfl, rfl, HY, by simpa [encU] using own2, r3', r4', BC⟩
      · have han : ¬ ((R a &&& ring : Nat) : Int) = 0 := by omega
        have HY : Hid (O = some (home ++ [ring])) := by
          show O = some (home ++ [ring])
          obtain ⟨x1, x2, x3, x4, x5, x6⟩ := HX.out
          rw [← x4]
          simp [ringsF, h0, hh]
        clear HX hh
        generalize seen ||| ring = sn at *
        generalize R a &&& ring = rr at *
        go_wp2_with (at_builtin; refine wpList_append_own _ rfl (.tmp 22) (.tmp 24) 80 rfl w.heap.size 22 i0 (.int .u64 0) 1 8 Tryd.underlying80 hi hz0 hz1 hz2 rfl (by decide) _ home.length (encU home) rfl own8 ⟨wr.heap.size, 0, none⟩ 1 1 [.int .u64 (ring : Nat)] rfl rfl hnews.out (by simp [Value.oneCell']) (by unfold maxLen; omega) (by omega) (by simp; omega) ?_; intro v1 wa own1 grow1 hif1; clear hif1; have r3' := isR_append own8 grow1 (r3.alloc _); have r4' := isR_append own8 grow1 (r4.alloc _); have BC := (BB.alloc BB.size (.cells #[.int .u64 (ring : Nat)] 22)).grown grow1 (BB.alloc BB.size _).size (fun k e => (own8.lt k e).1); clear grow1 own8; have hrow := r3'.row a ha)
        go_ret
        exact ⟨BC, .inr ⟨_, v1, HY.out, rfl, by simpa [encU] using own1⟩⟩
end Go.Proofs.YtkccckjiemijeabDoor

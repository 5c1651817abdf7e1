/- StateOrders: the law. -/
import Derived.Test.YtbhgchhoeokjhaaHP
import Derived.Test.YtbhgchhoeokjhaaLC
namespace Go.Proofs.Ytbhgchhoeokjhaa
open Go Go.RowKit M
set_option linter.unusedSimpArgs false
set_option linter.unusedVariables false

theorem own_grown {w w' : World} {B : Nat} {v : Value} {l : List FS} {r : Option Nat} (h : OwnL w B v l) (hg : w.grownBy w' r) (hne : ∀ k, v.ownBlock = some k → r ≠ some k) : OwnL w' B v l := by
  refine ⟨h.1, ?_⟩
  rcases h.2 with h1 | ⟨g, cap, cur, rfl, h2, hh, rest⟩
  · exact .inl h1
  · exact .inr ⟨g, cap, cur, rfl, h2, (hg.block g (Array.getElem?_eq_some_iff.1 hh).1 (fun e => hne g rfl e.symm)).trans hh, rest⟩
theorem below_grown {B : Nat} {w0 w w' : World} {r : Option Nat} (h : Below B w0 w) (hg : w.grownBy w' r) (hB : B ≤ w.heap.size) (hr : ∀ k, r = some k → B ≤ k) : Below B w0 w' := h.grown hg hB hr
theorem own_slice {w : World} {B n : Nat} {v : Value} {l : List FS} (h : OwnL w B v l) (hn : l.length = n) : ∃ a c, v = .slice a n c ∧ Seg w a (flatF l) := by
  obtain ⟨a, c, e, s⟩ := own_seg h
  exact ⟨a, c, by rw [e, hn], s⟩
set_option maxRecDepth 100000 in
set_option maxHeartbeats 4000000 in
theorem orders_few (a : Option Addr) (cap : Nat) (l : List FS) (hn : l.length ≤ 4000) (x y : FS) (w : World) (hS : Seg w a (flatF l)) :
    Calls Try.prog 3 #[.slice a l.length cap, .agg (encF x).toArray, .agg (encF y).toArray] w fun e w' => e = .returned (.bool true) ∧ Below w.heap.size w w' := by
  obtain ⟨n, hln⟩ : ∃ n, l.length = n := ⟨_, rfl⟩
  obtain ⟨m, hml⟩ : ∃ m, (setF l).length = m := ⟨_, rfl⟩
  have hmn : m ≤ n := by rw [← hml, ← hln]; exact setF_len l
  have hF := fun W => few_any a none n 0 cap 0 (by omega) (by omega) W
  rw [decide_eq_true (by omega)] at hF
  have hLent := fun W (h : Seg W a (flatF l)) => lent_any a cap l (by omega) W h
  have hSort := fun W (g : Nat) (h : Lnt W g l) => sort_any (some ⟨g, 0, none⟩) (n + 1) l (by omega) W (lnt_seg h)
  have hRSort := fun W (h : Seg W a (flatF l)) => rsort_any a cap l (by omega) W h
  have hRises := fun W (g : Nat) (h : Lnt W g l) => rises_any (some ⟨g, 0, none⟩) (n + 1) l (by omega) W (lnt_seg h)
  have hRRises := fun W (h : Seg W a (flatF l)) => rrises_any a cap l (by omega) W h
  have hSame := fun W a1 a2 c1 c2 (h1 : Seg W a1 (flatF (setF l))) (h2 : Seg W a2 (flatF (setF l))) => same_same a1 a2 c1 c2 (setF l) (by omega) W h1 h2
  have hBack := fun W (g : Nat) (h : Lnt W g l) (h2 : Seg W a (flatF l)) => back_any a cap l (by omega) g W h h2
  have hSpoil := fun W (B : Nat) v (h : OwnL W B v (setF l)) (hB : B ≤ W.heap.size) => spoil_any h hB (by omega)
  simp only [hln] at hLent hSort hRSort hRises hRRises hBack
  simp only [hml] at hSame
  rw [hln]
  have k1 := fun W => check_any x W
  have k2 := fun (W : World) => (num_any (ckF x) W).mono (R' := fun e w' => e = .returned (.int .i64 (ckF x)) ∧ Below W.heap.size W w') fun _ _ ⟨h, k⟩ => ⟨h, by rw [k]; exact Below.refl _ _⟩
  have k3 := fun W => rcheck_any x W
  have k4 := fun W => compare_ans x y W
  have k5 := fun W => rcompare_ans x y W
  generalize ckF x = e1 at *
  generalize cmpF x y = e2 at *
  generalize setB l = e3 at *
  have HS0 : Hid (Seg w a (flatF l)) := hS
  have HML : Hid ((setF l).length = m) := hml
  clear hS hln hml
  have ta : True := trivial
  have tb : True := trivial
  go_enter Try.func3, Try.ntmps3
  go_wp2_with (first
    | (clear ta; refine wpList_boxS rfl _ _ rfl (encF x) rfl ?_; intro wa b1 Fa Ia)
    | (clear tb; refine wpList_boxS rfl _ _ rfl (encF y) rfl ?_; intro wb b2 Fb Ib; have Ja := Ia.fresh Fb; have Bb := Below.then (fresh_b Fa) (fresh_b Fb))
    | (go_at_call 7; refine (hF _).mono ?_; rintro e w' ⟨rfl, hw'⟩; replace hw' := hw'.symm; subst hw'; clear hF; have tl : True := trivial)
    | (clear tl; go_at_call 8; refine (hLent _ (HS0.out.below Bb)).mono ?_; rintro e w1 ⟨⟨g, rfl, hg, L1⟩, B1⟩; have ts : True := trivial)
    | (clear ts; go_at_call 9; refine (hSort _ g L1).mono ?_; rintro e w2 ⟨vx, rfl, O2, B2⟩; obtain ⟨ax, cx, hvx, S2⟩ := own_slice O2 HML.out; subst hvx; have L2 : Lnt w2 g l := IsS.grown L1 B2; have tt : True := trivial)
    | (clear tt; go_at_call 9; refine (hSort _ g L2).mono ?_; rintro e w3 ⟨vy, rfl, O3, B3⟩; obtain ⟨ay, cy, hvy, S3⟩ := own_slice O3 HML.out; subst hvy; have Bw3 := Below.then (Below.then (Below.then Bb B1) B2) B3)
    | (go_at_call 10; refine (hRSort _ (HS0.out.below Bw3)).mono ?_; rintro e w4 ⟨vw, rfl, O4, B4⟩; obtain ⟨aw, cw, hvw, S4⟩ := own_slice O4 HML.out; subst hvw))
  have B14 := Below.then (Below.then B2 B3) B4
  have Bb4 := Below.then B1 B14
  have B04 := Below.then Bb Bb4
  have J1 := Ja.grown Bb4
  have J2 := Ib.grown Bb4
  have L4 : Lnt w4 g l := IsS.grown L1 B14
  have O2' := own_belowW O2 (Below.then B3 B4)
  have O3' := own_belowW O3 B4
  have S2' := S2.below (Below.then B3 B4)
  have S3' := S3.below B4
  have S04 := HS0.out.below B04
  have k6 := fun (W : World) (h : Below w4.heap.size w4 W) => hRises W g (IsS.grown L4 h)
  have k7 := fun (W : World) (h : Below w4.heap.size w4 W) => hRRises W (S04.below h)
  have k8 := fun (W : World) (h : Below w4.heap.size w4 W) => hSame W ax aw cx cw (S2'.below h) (S4.below h)
  have k9 := fun (W : World) (h : Below w4.heap.size w4 W) => hSame W ay aw cy cw (S3'.below h) (S4.below h)
  have k10 := fun (W : World) (h : Below w4.heap.size w4 W) => hBack W g (IsS.grown L4 h) (S04.below h)
  refine grow_allW (by kernel_rfl) (by kernel_rfl) ?_
  refine WG.whole rfl _ rfl rfl J1 ?_
  simp only [Act.put, List.setIfInBounds_toArray, List.set_cons_succ, List.set_cons_zero]
  refine WG.call rfl (v := .int .i64 e1) (fun w _ => k1 w) (fun w => by first | rfl | (go_simp; done) | (simp [go_sem]; done)) ?_
  simp only [Act.put, List.setIfInBounds_toArray, List.set_cons_succ, List.set_cons_zero]
  refine WG.call rfl (v := .int .i64 e1) (fun w _ => k2 w) (fun w => by first | rfl | (go_simp; done) | (simp [go_sem]; done)) ?_
  simp only [Act.put, List.setIfInBounds_toArray, List.set_cons_succ, List.set_cons_zero]
  refine WG.whole rfl _ rfl rfl J1 ?_
  simp only [Act.put, List.setIfInBounds_toArray, List.set_cons_succ, List.set_cons_zero]
  refine WG.call rfl (v := .int .i64 e1) (fun w _ => k3 w) (fun w => by first | rfl | (go_simp; done) | (simp [go_sem]; done)) ?_
  simp only [Act.put, List.setIfInBounds_toArray, List.set_cons_succ, List.set_cons_zero]
  refine WG.put rfl (v := .bool false) (fun w => by first | rfl | (go_simp; done) | (simp [go_sem]; done)) ?_
  simp only [Act.put, List.setIfInBounds_toArray, List.set_cons_succ, List.set_cons_zero]
  refine WG.put rfl (v := .bool false) (fun w => by first | rfl | (go_simp; done) | (simp [go_sem]; done)) ?_
  simp only [Act.put, List.setIfInBounds_toArray, List.set_cons_succ, List.set_cons_zero]
  refine WG.whole rfl _ rfl rfl J1 ?_
  simp only [Act.put, List.setIfInBounds_toArray, List.set_cons_succ, List.set_cons_zero]
  refine WG.whole rfl _ rfl rfl J2 ?_
  simp only [Act.put, List.setIfInBounds_toArray, List.set_cons_succ, List.set_cons_zero]
  refine WG.call rfl (v := .int .i64 e2) (fun w _ => k4 w) (fun w => by first | rfl | (go_simp; done) | (simp [go_sem]; done)) ?_
  simp only [Act.put, List.setIfInBounds_toArray, List.set_cons_succ, List.set_cons_zero]
  refine WG.whole rfl _ rfl rfl J1 ?_
  simp only [Act.put, List.setIfInBounds_toArray, List.set_cons_succ, List.set_cons_zero]
  refine WG.whole rfl _ rfl rfl J2 ?_
  simp only [Act.put, List.setIfInBounds_toArray, List.set_cons_succ, List.set_cons_zero]
  refine WG.call rfl (v := .int .i64 e2) (fun w _ => k5 w) (fun w => by first | rfl | (go_simp; done) | (simp [go_sem]; done)) ?_
  simp only [Act.put, List.setIfInBounds_toArray, List.set_cons_succ, List.set_cons_zero]
  refine WG.put rfl (v := .bool false) (fun w => by first | rfl | (go_simp; done) | (simp [go_sem]; done)) ?_
  simp only [Act.put, List.setIfInBounds_toArray, List.set_cons_succ, List.set_cons_zero]
  refine WG.put rfl (v := .bool false) (fun w => by first | rfl | (go_simp; done) | (simp [go_sem]; done)) ?_
  simp only [Act.put, List.setIfInBounds_toArray, List.set_cons_succ, List.set_cons_zero]
  refine WG.put rfl (v := .bool false) (fun w => by first | rfl | (go_simp; done) | (simp [go_sem]; done)) ?_
  simp only [Act.put, List.setIfInBounds_toArray, List.set_cons_succ, List.set_cons_zero]
  refine WG.put rfl (v := .slice (some ⟨g, 0, none⟩) n (n + 1)) (fun w => by first | rfl | (go_simp; done) | (simp [go_sem]; done)) ?_
  simp only [Act.put, List.setIfInBounds_toArray, List.set_cons_succ, List.set_cons_zero]
  refine WG.call rfl (v := .bool e3) k6 (fun w => by first | rfl | (go_simp; done) | (simp [go_sem]; done)) ?_
  simp only [Act.put, List.setIfInBounds_toArray, List.set_cons_succ, List.set_cons_zero]
  refine WG.put rfl (v := .slice a n cap) (fun w => by first | rfl | (go_simp; done) | (simp [go_sem]; done)) ?_
  simp only [Act.put, List.setIfInBounds_toArray, List.set_cons_succ, List.set_cons_zero]
  refine WG.call rfl (v := .bool e3) k7 (fun w => by first | rfl | (go_simp; done) | (simp [go_sem]; done)) ?_
  simp only [Act.put, List.setIfInBounds_toArray, List.set_cons_succ, List.set_cons_zero]
  refine WG.put rfl (v := .bool false) (fun w => by first | rfl | (go_simp; done) | (simp [go_sem]; done)) ?_
  simp only [Act.put, List.setIfInBounds_toArray, List.set_cons_succ, List.set_cons_zero]
  refine WG.put rfl (v := .bool false) (fun w => by first | rfl | (go_simp; done) | (simp [go_sem]; done)) ?_
  simp only [Act.put, List.setIfInBounds_toArray, List.set_cons_succ, List.set_cons_zero]
  refine WG.put rfl (v := .bool false) (fun w => by first | rfl | (go_simp; done) | (simp [go_sem]; done)) ?_
  simp only [Act.put, List.setIfInBounds_toArray, List.set_cons_succ, List.set_cons_zero]
  refine WG.put rfl (v := .slice ax m cx) (fun w => by first | rfl | (go_simp; done) | (simp [go_sem]; done)) ?_
  simp only [Act.put, List.setIfInBounds_toArray, List.set_cons_succ, List.set_cons_zero]
  refine WG.put rfl (v := .slice aw m cw) (fun w => by first | rfl | (go_simp; done) | (simp [go_sem]; done)) ?_
  simp only [Act.put, List.setIfInBounds_toArray, List.set_cons_succ, List.set_cons_zero]
  refine WG.call rfl (v := .bool true) k8 (fun w => by first | rfl | (go_simp; done) | (simp [go_sem]; done)) ?_
  simp only [Act.put, List.setIfInBounds_toArray, List.set_cons_succ, List.set_cons_zero]
  refine WG.put rfl (v := .bool false) (fun w => by first | rfl | (go_simp; done) | (simp [go_sem]; done)) ?_
  simp only [Act.put, List.setIfInBounds_toArray, List.set_cons_succ, List.set_cons_zero]
  refine WG.put rfl (v := .bool false) (fun w => by first | rfl | (go_simp; done) | (simp [go_sem]; done)) ?_
  simp only [Act.put, List.setIfInBounds_toArray, List.set_cons_succ, List.set_cons_zero]
  refine WG.put rfl (v := .bool false) (fun w => by first | rfl | (go_simp; done) | (simp [go_sem]; done)) ?_
  simp only [Act.put, List.setIfInBounds_toArray, List.set_cons_succ, List.set_cons_zero]
  refine WG.put rfl (v := .slice ay m cy) (fun w => by first | rfl | (go_simp; done) | (simp [go_sem]; done)) ?_
  simp only [Act.put, List.setIfInBounds_toArray, List.set_cons_succ, List.set_cons_zero]
  refine WG.put rfl (v := .slice aw m cw) (fun w => by first | rfl | (go_simp; done) | (simp [go_sem]; done)) ?_
  simp only [Act.put, List.setIfInBounds_toArray, List.set_cons_succ, List.set_cons_zero]
  refine WG.call rfl (v := .bool true) k9 (fun w => by first | rfl | (go_simp; done) | (simp [go_sem]; done)) ?_
  simp only [Act.put, List.setIfInBounds_toArray, List.set_cons_succ, List.set_cons_zero]
  refine WG.put rfl (v := .bool false) (fun w => by first | rfl | (go_simp; done) | (simp [go_sem]; done)) ?_
  simp only [Act.put, List.setIfInBounds_toArray, List.set_cons_succ, List.set_cons_zero]
  refine WG.put rfl (v := .bool false) (fun w => by first | rfl | (go_simp; done) | (simp [go_sem]; done)) ?_
  simp only [Act.put, List.setIfInBounds_toArray, List.set_cons_succ, List.set_cons_zero]
  refine WG.put rfl (v := .bool false) (fun w => by first | rfl | (go_simp; done) | (simp [go_sem]; done)) ?_
  simp only [Act.put, List.setIfInBounds_toArray, List.set_cons_succ, List.set_cons_zero]
  refine WG.put rfl (v := .slice (some ⟨g, 0, none⟩) n (n + 1)) (fun w => by first | rfl | (go_simp; done) | (simp [go_sem]; done)) ?_
  simp only [Act.put, List.setIfInBounds_toArray, List.set_cons_succ, List.set_cons_zero]
  refine WG.put rfl (v := .slice a n cap) (fun w => by first | rfl | (go_simp; done) | (simp [go_sem]; done)) ?_
  simp only [Act.put, List.setIfInBounds_toArray, List.set_cons_succ, List.set_cons_zero]
  refine WG.call rfl (v := .bool true) k10 (fun w => by first | rfl | (go_simp; done) | (simp [go_sem]; done)) ?_
  simp only [Act.put, List.setIfInBounds_toArray, List.set_cons_succ, List.set_cons_zero]
  refine WG.put rfl (v := .bool false) (fun w => by first | rfl | (go_simp; done) | (simp [go_sem]; done)) ?_
  simp only [Act.put, List.setIfInBounds_toArray, List.set_cons_succ, List.set_cons_zero]
  refine WG.put rfl (v := .bool false) (fun w => by first | rfl | (go_simp; done) | (simp [go_sem]; done)) ?_
  simp only [Act.put, List.setIfInBounds_toArray, List.set_cons_succ, List.set_cons_zero]
  refine WG.nil ?_
  intro w5 B5
  have O5x := own_belowW O2' B5
  have hB5x : w1.heap.size ≤ w5.heap.size := by have := B14.size; have := B5.size; omega
  have hsp := hSpoil w5 _ _ O5x hB5x
  clear k1 k2 k3 k4 k5 k6 k7 k8 k9 k10
  go_wp2_with (first
    | (go_at_call 20; refine hsp.mono ?_; rintro e w6 ⟨rfl, G6⟩; refine Hid.out ?_))
  refine Lib.hid ?_
  have hxl : ∀ k, (Value.slice ax m cx).ownBlock = some k → w1.heap.size ≤ k ∧ k < w2.heap.size := fun k hk => O2.lt k hk
  have B16 : Below w1.heap.size w1 w6 := below_grown (Below.then B14 B5) G6 hB5x (fun k hk => (hxl k hk).1)
  have hz23 : w2.heap.size ≤ w3.heap.size := B3.size
  have O6y := own_grown (own_belowW O3' B5) G6 (fun k hk e => by have h1 := (O3.lt k hk).1; have h2 := (hxl k e).2; omega)
  have O6w := own_grown (own_belowW O4 B5) G6 (fun k hk e => by have h1 := (O4.lt k hk).1; have h2 := (hxl k e).2; omega)
  obtain ⟨ay', cy', ey, S6y⟩ := own_slice O6y HML.out
  obtain ⟨aw', cw', ew, S6w⟩ := own_slice O6w HML.out
  cases ey
  cases ew
  have B06 := Below.then (Below.then Bb B1) B16
  have hs1 := hSame w6 ay aw cy cw S6y S6w
  have hs2 := fun (W : World) (h : Below w6.heap.size w6 W) => hBack W g (IsS.grown (IsS.grown L1 B16) h) ((HS0.out.below B06).below h)
  clear hSame hBack hSpoil hsp
  go_wp2_with (first
    | (go_at_call 18; refine hs1.mono ?_; rintro e w7 ⟨rfl, B7⟩; have hs3 := hs2 w7 B7; clear hs1 hs2)
    | (go_at_call 19; refine hs3.mono ?_; rintro e w8 ⟨rfl, B8⟩; clear hs3))
  go_ret
  exact ⟨rfl, Below.then (Below.then B06 B7) B8⟩
set_option maxRecDepth 100000 in
set_option maxHeartbeats 2000000 in
theorem orders_any (a : Option Addr) (cap : Nat) (l : List FS) (hn : l.length ≤ 4611686018427387903) (x y : FS) (w : World) (hS : Seg w a (flatF l)) :
    Calls Try.prog 3 #[.slice a l.length cap, .agg (encF x).toArray, .agg (encF y).toArray] w fun e w' => e = .returned (.bool true) ∧ Below w.heap.size w w' := by
  by_cases h : l.length ≤ 4000
  · exact orders_few a cap l h x y w hS
  · have hF := fun W => few_any a none l.length 0 cap 0 hn (by omega) W
    rw [decide_eq_false (by omega)] at hF
    clear hS
    have ta : True := trivial
    have tb : True := trivial
    go_enter Try.func3, Try.ntmps3
    go_wp2_with (first
      | (clear ta; refine wpList_boxS rfl _ _ rfl (encF x) rfl ?_; intro wa b1 Fa Ia)
      | (clear tb; refine wpList_boxS rfl _ _ rfl (encF y) rfl ?_; intro wb b2 Fb Ib; have Bb := Below.then (fresh_b Fa) (fresh_b Fb))
      | (go_at_call 7; refine (hF _).mono ?_; rintro e w' ⟨rfl, hw'⟩; replace hw' := hw'.symm; subst hw'; clear hF))
    go_ret
    exact ⟨rfl, Bb⟩
end Go.Proofs.Ytbhgchhoeokjhaa

/- The reference's operations of two relations: bit by bit. -/
import Derived.Test.YtkccckjiemijeaaDoorY1
namespace Go.Proofs.YtkccckjiemijeaaDoor
open Go.RowKit Go.Shelf M
set_option linter.unusedSimpArgs false
set_option linter.unusedVariables false

section
variable {ops : Array Oper} {rest : List Oper} {op : Oper} {a : Act} {w : World} {Q : Exit → Act → World → Prop}
theorem wpList_loadRg (hw : Region.wanted op (yielded ops a.tmps) = true) (x : Operand) (ho : op.op = .load 25 x) {b : Nat} (hx : a.eval x = .pointer (some ⟨b, 0, none⟩)) {n : Int} {f : Nat → Nat} (hc : IsR w b n f)
    (h : wpList Tryd.prog ops Q rest (a.put op.dst (relv n f)) w) : wpList Tryd.prog ops Q (op :: rest) a w := by
  refine wpList_step fun K hK => ?_
  rw [if_pos hw]
  unfold Oper.wp execOp
  have := run_loadAt_mid (P := Tryd.prog) w b 0 25 (cellsL n f) _ hc.range Tryd.underlying25 rfl (by rw [cellsL_length]; exact info25)
  simp only [ho, hx, Sem.run_bind, this, Result.andThen_ok, Sem.run_pure]
  exact hK _ _ h
end
/-- The bits below m for which it holds. -/
def rowB (p : Nat → Bool) : Nat → Nat
  | 0 => 0
  | m + 1 => if p m then rowB p m ||| 2 ^ m else rowB p m
theorem rowB_bit (p : Nat → Bool) (m b : Nat) : (rowB p m).testBit b = (decide (b < m) && p b) := by
  induction m with
  | zero => simp [rowB]
  | succ m ih =>
    unfold rowB
    by_cases hp : p m = true
    · rw [if_pos hp, Nat.testBit_or, ih, Nat.testBit_two_pow]
      by_cases e : b = m
      · subst e; simp [hp]
      · have : ¬ m = b := fun h => e h.symm
        have h2 : decide (b < m + 1) = decide (b < m) := by simp only [decide_eq_decide]; omega
        simp [this, h2]
    · rw [if_neg hp, ih]
      by_cases e : b = m
      · subst e; simp [hp]
      · have h2 : decide (b < m + 1) = decide (b < m) := by simp only [decide_eq_decide]; omega
        rw [h2]
theorem rowB_lt (p : Nat → Bool) (m : Nat) (hm : m ≤ 64) : rowB p m < 18446744073709551616 := by
  have h : rowB p m < 2 ^ 64 := Nat.lt_pow_two_of_testBit _ fun b hb => by
    rw [rowB_bit]
    have : decide (b < m) = false := decide_eq_false (by omega)
    rw [this]; rfl
  exact h
/-- The matrix as far as row k, place m. -/
def matTo (N : Nat) (h : Nat → Nat → Bool) (k m : Nat) : Nat → Nat := fun j => if j < k then rowB (h j) N else if j = k then rowB (h j) m else 0
def matF (N : Nat) (h : Nat → Nat → Bool) : Nat → Nat := matTo N h N 0
theorem matTo_start (N : Nat) (h : Nat → Nat → Bool) (j : Nat) : matTo N h 0 0 j = 0 := by
  unfold matTo; simp [rowB]
theorem matTo_next (N : Nat) (h : Nat → Nat → Bool) (k j : Nat) : matTo N h k N j = matTo N h (k + 1) 0 j := by
  unfold matTo
  by_cases h1 : j < k
  · rw [if_pos h1, if_pos (by omega)]
  · by_cases h2 : j = k
    · rw [if_neg h1, if_pos h2, if_pos (by omega)]
    · rw [if_neg h1, if_neg h2, if_neg (by omega)]; simp [rowB]
theorem matTo_at (N : Nat) (h : Nat → Nat → Bool) (k m : Nat) : matTo N h k m k = rowB (h k) m := by unfold matTo; simp
theorem matTo_yes (N : Nat) (h : Nat → Nat → Bool) (k m : Nat) (hh : h k m = true) (j : Nat) : upd (matTo N h k m) k (rowB (h k) m ||| 2 ^ m) j = matTo N h k (m + 1) j := by
  unfold upd matTo
  by_cases e : j = k
  · subst e; simp [rowB, hh]
  · rw [if_neg e, if_neg e, if_neg e]
theorem matTo_no (N : Nat) (h : Nat → Nat → Bool) (k m : Nat) (hh : h k m = false) (j : Nat) : matTo N h k m j = matTo N h k (m + 1) j := by
  unfold matTo
  by_cases e : j = k
  · subst e; simp [rowB, hh]
  · rw [if_neg e, if_neg e]
theorem matF_void (h : Nat → Nat → Bool) (j : Nat) : matF 0 h j = 0 := matTo_start 0 h j
theorem hasE_in (N : Nat) (f : Nat → Nat) (a b : Nat) (ha : a < N) (hb : b < N) : hasE N f (a : Int) (b : Int) = (f a).testBit b := by simp [hasE, ha, hb]

def hOr (N : Nat) (F G : Nat → Nat) (a b : Nat) : Bool := (F a).testBit b || (G a).testBit b
def hAnd (N : Nat) (F G : Nat → Nat) (a b : Nat) : Bool := (F a).testBit b && (G a).testBit b
def hSub (N : Nat) (F G : Nat → Nat) (a b : Nat) : Bool := (F a).testBit b && !(G a).testBit b

set_option maxRecDepth 100000 in
set_option maxHeartbeats 2000000 in
theorem two0_any (n : Int) (f : Nat → Nat) (m : Int) (g : Nat → Nat) (w : World) (hf : Hid (Wf f)) (hg : Hid (Wf g)) :
    Calls Tryd.prog 27 #[.int .i64 0, relv n f, relv m g] w fun e w' => e = .returned (relv (alN n f m g) (matF (alN n f m g).toNat (hOr (alN n f m g).toNat (alF n f m g) (alG n f m g)))) ∧ Below w.heap.size w w' := by
  have c1 : Hid (∀ W, Calls Tryd.prog 24 #[relv n f] W fun e w' => e = .returned (relv (nN n f) (nF n f)) ∧ Below W.heap.size W w') := fun W => rright_any n f W hf
  have c2 : Hid (∀ W, Calls Tryd.prog 24 #[relv m g] W fun e w' => e = .returned (relv (nN m g) (nF m g)) ∧ Below W.heap.size W w') := fun W => rright_any m g W hg
  by_cases hN : nN n f = nN m g
  · have e1 : alN n f m g = nN n f := if_pos hN
    have e2 : alF n f m g = nF n f := if_pos hN
    have e3 : alG n f m g = nF m g := if_pos hN
    rw [e1, e2, e3]
    obtain ⟨N, h1, hN64, h3⟩ := n_right' n f hf.out
    obtain ⟨M, k1, k2, k3⟩ := n_right' m g hg.out
    obtain rfl : N = M := by rw [h1, k1] at hN; omega
    rw [h1] at c1 ⊢
    rw [k1] at c2
    rw [Int.toNat_natCast]
    have wF : Hid (Wf (nF n f)) := h3.wf
    have wG : Hid (Wf (nF m g)) := k3.wf
    generalize nF n f = F at *
    generalize nF m g = G at *
    clear hN e1 e2 e3 h1 k1 k2 h3 k3
    have cF : Hid (∀ a b W, a < N → b < N → Calls Tryd.prog 23 #[relv N F, .int .i64 (a : Nat), .int .i64 (b : Nat)] W fun e w' => e = .returned (.bool ((F a).testBit b)) ∧ Below W.heap.size W w') := fun a b W ha hb => by
      have := rhas_any N hN64 F a b W wF
      rw [hasE_in N F a b ha hb] at this
      exact this
    have cG : Hid (∀ a b W, a < N → b < N → Calls Tryd.prog 23 #[relv N G, .int .i64 (a : Nat), .int .i64 (b : Nat)] W fun e w' => e = .returned (.bool ((G a).testBit b)) ∧ Below W.heap.size W w') := fun a b W ha hb => by
      have := rhas_any N hN64 G a b W wG
      rw [hasE_in N G a b ha hb] at this
      exact this
    clear wF wG
    have tk1 : True := trivial
    have tk2 : True := trivial
    have tk3 : True := trivial
    have tk4 : True := trivial
    go_enter Tryd.func27, Tryd.ntmps27
    go_wp2_with (first
      | (refine wpList_boxR rfl _ rfl rfl ?_; clear tk1; intro W1 b4 F1 r4; have B1 := Fresh.trans (Below.refl _ w) (Nat.le_refl _) F1)
      | (refine wpList_boxR rfl _ rfl rfl ?_; intro W2 b5 F2 r5; replace B1 := Fresh.trans B1 B1.size F2; replace r4 := r4.fresh F2)
      | (refine wpList_allocR rfl rfl ?_; clear tk2; intro W3 b6 F3 r6; replace B1 := Fresh.trans B1 B1.size F3; replace r4 := r4.fresh F3; replace r5 := r5.fresh F3; have hb4 : w.heap.size ≤ b4 := (by rw [F1.at']; exact Nat.le_refl _); have hb5 : b4 < b5 := (by rw [F2.at', F1.size]; omega); have hb6 : b5 < b6 := (by rw [F3.at', F2.size]; omega); have hz3 := F3.size; clear F1 F2 F3)
      | (refine wpList_allocR rfl rfl ?_; intro W4 b7 F4 r7; replace B1 := Fresh.trans B1 B1.size F4; replace r4 := r4.fresh F4; replace r5 := r5.fresh F4; replace r6 := r6.fresh F4; have hb7 : b6 < b7 := (by rw [F4.at']; exact hb67); clear F4)
      | (refine wpList_loadR rfl _ rfl rfl r4 ?_)
      | (refine wpList_loadR rfl _ rfl rfl r5 ?_)
      | (refine wpList_buildRN rfl _ rfl rfl ?_)
      | (go_at_call 24; clear tk3; refine (c1.out _).mono ?_; rintro e w' ⟨rfl, hw'⟩; replace r4 := r4.grown hw'; replace r5 := r5.grown hw'; replace r6 := r6.grown hw'; replace B1 := B1.trans (hw'.mono B1.size); clear hw')
      | (go_at_call 24; refine (c2.out _).mono ?_; rintro e w' ⟨rfl, hw'⟩; replace r4 := r4.grown hw'; replace r5 := r5.grown hw'; replace r6 := r6.grown hw'; replace B1 := B1.trans (hw'.mono B1.size); clear hw')
      | (refine wpList_storeR rfl _ _ rfl rfl rfl r4 ?_; clear tk4; intro W5 U5 q4; replace B1 := U5.trans B1 (by omega); replace r5 := r5.upd U5 (by omega); replace r6 := r6.upd U5 (by omega); clear U5 r4; have r4 := q4; clear q4)
      | (refine wpList_storeR rfl _ _ rfl rfl rfl r5 ?_; intro W5 U5 q5; replace B1 := U5.trans B1 (by omega); replace r4 := r4.upd U5 (by omega); replace r6 := r6.upd U5 (by omega); clear U5 r5; have r5 := q5; clear q5; have cn4 := r4.n; have cn5 := r5.n; have hb67 := r6.lt)
      | (refine wpList_storeR rfl _ _ rfl rfl rfl r7 ?_; intro W5 U5 q7; replace B1 := U5.trans B1 (by omega); replace r4 := r4.upd U5 (by omega); replace r5 := r5.upd U5 (by omega); replace r6 := r6.upd U5 (by omega); clear U5 r7))
    clear cn4 cn5 hb67 hz3 c1 c2
    go_loopw [8] (fun i wr => ∃ k : Nat, k ≤ N ∧ i = .int .i64 k ∧ IsR wr b7 N (matTo N (hOr N F G) k 0) ∧ IsR wr b4 N F ∧ IsR wr b5 N G ∧ IsR wr b6 0 void ∧ Below w.heap.size w wr) (fun i _ => N - (intOf i).toNat)
    case atStart => exact ⟨0, by omega, rfl, q7.congr (fun j _ => by rw [matTo_start]; rfl), r4, r5, r6, B1⟩
    case round =>
      clear r4 r5 r6 q7 B1
      obtain ⟨k, hk, rfl, q7, q4, q5, q6, BB⟩ := hrel
      have cn4 := q4.n
      by_cases hlt : k < N
      · have hki : (k : Int) < (N : Int) := by omega
        go_wp2
        go_loopw [9] (fun i wr => ∃ m : Nat, m ≤ N ∧ i = .int .i64 m ∧ IsR wr b7 N (matTo N (hOr N F G) k m) ∧ IsR wr b4 N F ∧ IsR wr b5 N G ∧ IsR wr b6 0 void ∧ Below w.heap.size w wr) (fun i _ => N - (intOf i).toNat)
        case atStart => exact ⟨0, by omega, rfl, q7, q4, q5, q6, BB⟩
        case round =>
          clear q4 q5 q6 q7 BB cn4
          obtain ⟨m, hm, rfl, q7, q4, q5, q6, BB⟩ := hrel
          have cn4 := q4.n
          by_cases hml : m < N
          · have hmi : (m : Int) < (N : Int) := by omega
            cases hp : (F k).testBit m <;> cases hq : (G k).testBit m
            · have HH : Hid (hOr N F G k m = false) := (show hOr N F G k m = _ by simp [hOr, hp, hq])
              have e1 := fun W => cF.out k m W hlt hml
              have e2 := fun W => cG.out k m W hlt hml
              rw [hp] at e1; rw [hq] at e2
              clear hp hq
              have tk5 : True := trivial
              obtain ⟨V, hV⟩ : ∃ V, V = wr := ⟨_, rfl⟩
              clear hV V
              go_wp2_with (first
                | (refine wpList_loadRg rfl _ rfl rfl q4 ?_)
                | (refine wpList_loadRg rfl _ rfl rfl q5 ?_)
                | (go_at_call 23; clear tk5; refine (e1 _).mono ?_; rintro e V ⟨rfl, hb⟩; replace q4 := q4.grown hb; replace q5 := q5.grown hb; replace q6 := q6.grown hb; replace q7 := q7.grown hb; replace BB := BB.trans (hb.mono BB.size); clear hb cn4; have cn4 := q4.n)
                | (go_at_call 23; refine (e2 _).mono ?_; rintro e V ⟨rfl, hb⟩; replace q4 := q4.grown hb; replace q5 := q5.grown hb; replace q6 := q6.grown hb; replace q7 := q7.grown hb; replace BB := BB.trans (hb.mono BB.size); clear hb cn4; have cn4 := q4.n))
              have HQ : Hid (IsR V b7 N (matTo N (hOr N F G) k (m + 1))) := q7.congr (fun j _ => matTo_no N (hOr N F G) k m HH.out j)
              clear q7 cF cG HH
              go_roundw
              case rel => exact ⟨m + 1, by omega, by simp, HQ.out, q4, q5, q6, BB⟩
              case measure => simp [intOf]; omega
            · have HH : Hid (hOr N F G k m = true) := (show hOr N F G k m = _ by simp [hOr, hp, hq])
              have e1 := fun W => cF.out k m W hlt hml
              have e2 := fun W => cG.out k m W hlt hml
              rw [hp] at e1; rw [hq] at e2
              clear hp hq
              have tk5 : True := trivial
              obtain ⟨V, hV⟩ : ∃ V, V = wr := ⟨_, rfl⟩
              clear hV V
              go_wp2_with (first
                | (refine wpList_loadRg rfl _ rfl rfl q4 ?_)
                | (refine wpList_loadRg rfl _ rfl rfl q5 ?_)
                | (go_at_call 23; clear tk5; refine (e1 _).mono ?_; rintro e V ⟨rfl, hb⟩; replace q4 := q4.grown hb; replace q5 := q5.grown hb; replace q6 := q6.grown hb; replace q7 := q7.grown hb; replace BB := BB.trans (hb.mono BB.size); clear hb cn4; have cn4 := q4.n)
                | (go_at_call 23; refine (e2 _).mono ?_; rintro e V ⟨rfl, hb⟩; replace q4 := q4.grown hb; replace q5 := q5.grown hb; replace q6 := q6.grown hb; replace q7 := q7.grown hb; replace BB := BB.trans (hb.mono BB.size); clear hb cn4; have cn4 := q4.n))
              have hrow := q7.row k (by omega)
              rw [matTo_at] at hrow
              have hxl := rowB_lt (hOr N F G k) m (by omega)
              have hfz := q7.frozen (1 + k)
              have hw := wrap_pow m (by omega)
              have hor := or_pow (rowB (hOr N F G k) m) m hxl (by omega)
              have U := Upd.setCell V b7 (1 + k) (.int .u64 ((rowB (hOr N F G k) m ||| 2 ^ m : Nat) : Int))
              have HQ : Hid (IsR (V.setCell ⟨b7, 1 + k, none⟩ (.int .u64 ((rowB (hOr N F G k) m ||| 2 ^ m : Nat) : Int))) b7 N (matTo N (hOr N F G) k (m + 1)) ∧ IsR (V.setCell ⟨b7, 1 + k, none⟩ (.int .u64 ((rowB (hOr N F G k) m ||| 2 ^ m : Nat) : Int))) b4 N F ∧ IsR (V.setCell ⟨b7, 1 + k, none⟩ (.int .u64 ((rowB (hOr N F G k) m ||| 2 ^ m : Nat) : Int))) b5 N G ∧ IsR (V.setCell ⟨b7, 1 + k, none⟩ (.int .u64 ((rowB (hOr N F G k) m ||| 2 ^ m : Nat) : Int))) b6 0 void ∧ Below w.heap.size w (V.setCell ⟨b7, 1 + k, none⟩ (.int .u64 ((rowB (hOr N F G k) m ||| 2 ^ m : Nat) : Int)))) := ⟨(q7.set k (rowB (hOr N F G k) m ||| 2 ^ m) (by omega)).congr (fun j _ => matTo_yes N (hOr N F G) k m HH.out j), q4.upd U (by omega), q5.upd U (by omega), q6.upd U (by omega), U.trans BB (by omega)⟩
              have hki64 : (k : Int) < 64 := by omega
              clear U q4 q5 q6 q7 BB cF cG HH hxl
              generalize rowB (hOr N F G k) m ||| 2 ^ m = z at *
              generalize rowB (hOr N F G k) m = z0 at *
              go_region
              go_wp2
              go_roundw
              case rel => exact ⟨m + 1, by omega, by simp, HQ.out.1.drew, HQ.out.2.1.drew, HQ.out.2.2.1.drew, HQ.out.2.2.2.1.drew, HQ.out.2.2.2.2.drew⟩
              case measure => simp [intOf]; omega
            · have HH : Hid (hOr N F G k m = true) := (show hOr N F G k m = _ by simp [hOr, hp, hq])
              have e1 := fun W => cF.out k m W hlt hml
              have e2 := fun W => cG.out k m W hlt hml
              rw [hp] at e1; rw [hq] at e2
              clear hp hq
              have tk5 : True := trivial
              obtain ⟨V, hV⟩ : ∃ V, V = wr := ⟨_, rfl⟩
              clear hV V
              go_wp2_with (first
                | (refine wpList_loadRg rfl _ rfl rfl q4 ?_)
                | (refine wpList_loadRg rfl _ rfl rfl q5 ?_)
                | (go_at_call 23; clear tk5; refine (e1 _).mono ?_; rintro e V ⟨rfl, hb⟩; replace q4 := q4.grown hb; replace q5 := q5.grown hb; replace q6 := q6.grown hb; replace q7 := q7.grown hb; replace BB := BB.trans (hb.mono BB.size); clear hb cn4; have cn4 := q4.n)
                | (go_at_call 23; refine (e2 _).mono ?_; rintro e V ⟨rfl, hb⟩; replace q4 := q4.grown hb; replace q5 := q5.grown hb; replace q6 := q6.grown hb; replace q7 := q7.grown hb; replace BB := BB.trans (hb.mono BB.size); clear hb cn4; have cn4 := q4.n))
              have hrow := q7.row k (by omega)
              rw [matTo_at] at hrow
              have hxl := rowB_lt (hOr N F G k) m (by omega)
              have hfz := q7.frozen (1 + k)
              have hw := wrap_pow m (by omega)
              have hor := or_pow (rowB (hOr N F G k) m) m hxl (by omega)
              have U := Upd.setCell V b7 (1 + k) (.int .u64 ((rowB (hOr N F G k) m ||| 2 ^ m : Nat) : Int))
              have HQ : Hid (IsR (V.setCell ⟨b7, 1 + k, none⟩ (.int .u64 ((rowB (hOr N F G k) m ||| 2 ^ m : Nat) : Int))) b7 N (matTo N (hOr N F G) k (m + 1)) ∧ IsR (V.setCell ⟨b7, 1 + k, none⟩ (.int .u64 ((rowB (hOr N F G k) m ||| 2 ^ m : Nat) : Int))) b4 N F ∧ IsR (V.setCell ⟨b7, 1 + k, none⟩ (.int .u64 ((rowB (hOr N F G k) m ||| 2 ^ m : Nat) : Int))) b5 N G ∧ IsR (V.setCell ⟨b7, 1 + k, none⟩ (.int .u64 ((rowB (hOr N F G k) m ||| 2 ^ m : Nat) : Int))) b6 0 void ∧ Below w.heap.size w (V.setCell ⟨b7, 1 + k, none⟩ (.int .u64 ((rowB (hOr N F G k) m ||| 2 ^ m : Nat) : Int)))) := ⟨(q7.set k (rowB (hOr N F G k) m ||| 2 ^ m) (by omega)).congr (fun j _ => matTo_yes N (hOr N F G) k m HH.out j), q4.upd U (by omega), q5.upd U (by omega), q6.upd U (by omega), U.trans BB (by omega)⟩
              have hki64 : (k : Int) < 64 := by omega
              clear U q4 q5 q6 q7 BB cF cG HH hxl
              generalize rowB (hOr N F G k) m ||| 2 ^ m = z at *
              generalize rowB (hOr N F G k) m = z0 at *
              go_region
              go_wp2
              go_roundw
              case rel => exact ⟨m + 1, by omega, by simp, HQ.out.1.drew, HQ.out.2.1.drew, HQ.out.2.2.1.drew, HQ.out.2.2.2.1.drew, HQ.out.2.2.2.2.drew⟩
              case measure => simp [intOf]; omega
            · have HH : Hid (hOr N F G k m = true) := (show hOr N F G k m = _ by simp [hOr, hp, hq])
              have e1 := fun W => cF.out k m W hlt hml
              have e2 := fun W => cG.out k m W hlt hml
              rw [hp] at e1; rw [hq] at e2
              clear hp hq
              have tk5 : True := trivial
              obtain ⟨V, hV⟩ : ∃ V, V = wr := ⟨_, rfl⟩
              clear hV V
              go_wp2_with (first
                | (refine wpList_loadRg rfl _ rfl rfl q4 ?_)
                | (refine wpList_loadRg rfl _ rfl rfl q5 ?_)
                | (go_at_call 23; clear tk5; refine (e1 _).mono ?_; rintro e V ⟨rfl, hb⟩; replace q4 := q4.grown hb; replace q5 := q5.grown hb; replace q6 := q6.grown hb; replace q7 := q7.grown hb; replace BB := BB.trans (hb.mono BB.size); clear hb cn4; have cn4 := q4.n)
                | (go_at_call 23; refine (e2 _).mono ?_; rintro e V ⟨rfl, hb⟩; replace q4 := q4.grown hb; replace q5 := q5.grown hb; replace q6 := q6.grown hb; replace q7 := q7.grown hb; replace BB := BB.trans (hb.mono BB.size); clear hb cn4; have cn4 := q4.n))
              have hrow := q7.row k (by omega)
              rw [matTo_at] at hrow
              have hxl := rowB_lt (hOr N F G k) m (by omega)
              have hfz := q7.frozen (1 + k)
              have hw := wrap_pow m (by omega)
              have hor := or_pow (rowB (hOr N F G k) m) m hxl (by omega)
              have U := Upd.setCell V b7 (1 + k) (.int .u64 ((rowB (hOr N F G k) m ||| 2 ^ m : Nat) : Int))
              have HQ : Hid (IsR (V.setCell ⟨b7, 1 + k, none⟩ (.int .u64 ((rowB (hOr N F G k) m ||| 2 ^ m : Nat) : Int))) b7 N (matTo N (hOr N F G) k (m + 1)) ∧ IsR (V.setCell ⟨b7, 1 + k, none⟩ (.int .u64 ((rowB (hOr N F G k) m ||| 2 ^ m : Nat) : Int))) b4 N F ∧ IsR (V.setCell ⟨b7, 1 + k, none⟩ (.int .u64 ((rowB (hOr N F G k) m ||| 2 ^ m : Nat) : Int))) b5 N G ∧ IsR (V.setCell ⟨b7, 1 + k, none⟩ (.int .u64 ((rowB (hOr N F G k) m ||| 2 ^ m : Nat) : Int))) b6 0 void ∧ Below w.heap.size w (V.setCell ⟨b7, 1 + k, none⟩ (.int .u64 ((rowB (hOr N F G k) m ||| 2 ^ m : Nat) : Int)))) := ⟨(q7.set k (rowB (hOr N F G k) m ||| 2 ^ m) (by omega)).congr (fun j _ => matTo_yes N (hOr N F G) k m HH.out j), q4.upd U (by omega), q5.upd U (by omega), q6.upd U (by omega), U.trans BB (by omega)⟩
              have hki64 : (k : Int) < 64 := by omega
              clear U q4 q5 q6 q7 BB cF cG HH hxl
              generalize rowB (hOr N F G k) m ||| 2 ^ m = z at *
              generalize rowB (hOr N F G k) m = z0 at *
              go_region
              go_wp2
              go_roundw
              case rel => exact ⟨m + 1, by omega, by simp, HQ.out.1.drew, HQ.out.2.1.drew, HQ.out.2.2.1.drew, HQ.out.2.2.2.1.drew, HQ.out.2.2.2.2.drew⟩
              case measure => simp [intOf]; omega
          · obtain rfl : m = N := by omega
            have HX : Hid (IsR wr b7 m (matTo m (hOr m F G) (k + 1) 0)) := q7.congr (fun j _ => matTo_next m (hOr m F G) k j)
            clear cF cG q7
            go_wp2
            go_roundw
            case rel => exact ⟨k + 1, by omega, by simp, HX.out, q4, q5, q6, BB⟩
            case measure => simp [intOf]; omega
      · obtain rfl : k = N := by omega
        clear cF cG
        go_wp2_with (first
          | (refine wpList_loadR rfl _ rfl rfl q7 ?_)
          | (refine wpList_storeR rfl _ _ rfl rfl rfl q6 ?_; intro W9 U9 r9))
        refine ret_R rfl rfl rfl r9 ⟨rfl, U9.trans BB (by omega)⟩
  · have e1 : alN n f m g = 0 := if_neg hN
    rw [e1]
    have HV : Hid (relv 0 (matF (Int.toNat 0) (hOr (Int.toNat 0) (alF n f m g) (alG n f m g))) = relv 0 void) := relv_congr rfl (fun j _ => by rw [show Int.toNat 0 = 0 from rfl, matF_void]; rfl)
    clear e1
    have tk1 : True := trivial
    have tk3 : True := trivial
    have tk4 : True := trivial
    go_enter Tryd.func27, Tryd.ntmps27
    go_wp2_with (first
      | (refine wpList_boxR rfl _ rfl rfl ?_; clear tk1; intro W1 b4 F1 r4; have B1 := Fresh.trans (Below.refl _ w) (Nat.le_refl _) F1)
      | (refine wpList_boxR rfl _ rfl rfl ?_; intro W2 b5 F2 r5; replace B1 := Fresh.trans B1 B1.size F2; replace r4 := r4.fresh F2)
      | (refine wpList_allocR rfl rfl ?_; intro W3 b6 F3 r6; replace B1 := Fresh.trans B1 B1.size F3; replace r4 := r4.fresh F3; replace r5 := r5.fresh F3; have hb4 : w.heap.size ≤ b4 := (by rw [F1.at']; exact Nat.le_refl _); have hb5 : b4 < b5 := (by rw [F2.at', F1.size]; omega); have hb6 : b5 < b6 := (by rw [F3.at', F2.size]; omega); clear F1 F2 F3)
      | (refine wpList_loadR rfl _ rfl rfl r4 ?_)
      | (refine wpList_loadR rfl _ rfl rfl r5 ?_)
      | (refine wpList_buildR0 rfl rfl ?_)
      | (go_at_call 24; clear tk3; refine (c1.out _).mono ?_; rintro e w' ⟨rfl, hw'⟩; replace r4 := r4.grown hw'; replace r5 := r5.grown hw'; replace r6 := r6.grown hw'; replace B1 := B1.trans (hw'.mono B1.size); clear hw')
      | (go_at_call 24; refine (c2.out _).mono ?_; rintro e w' ⟨rfl, hw'⟩; replace r4 := r4.grown hw'; replace r5 := r5.grown hw'; replace r6 := r6.grown hw'; replace B1 := B1.trans (hw'.mono B1.size); clear hw')
      | (refine wpList_storeR rfl _ _ rfl rfl rfl r4 ?_; clear tk4; intro W5 U5 q4; replace B1 := U5.trans B1 (by omega); replace r5 := r5.upd U5 (by omega); replace r6 := r6.upd U5 (by omega); clear U5 r4; have r4 := q4; clear q4)
      | (refine wpList_storeR rfl _ _ rfl rfl rfl r5 ?_; intro W5 U5 q5; replace B1 := U5.trans B1 (by omega); replace r4 := r4.upd U5 (by omega); replace r6 := r6.upd U5 (by omega); clear U5 r5; have r5 := q5; clear q5; have cn4 := r4.n; have cn5 := r5.n)
      | (refine wpList_storeR rfl _ _ rfl rfl rfl r6 ?_; intro W5 U5 q6; replace B1 := U5.trans B1 (by omega)))
    refine ret_R rfl rfl rfl q6 ⟨by rw [HV.out], B1⟩

set_option maxRecDepth 100000 in
set_option maxHeartbeats 2000000 in
theorem two1_any (n : Int) (f : Nat → Nat) (m : Int) (g : Nat → Nat) (w : World) (hf : Hid (Wf f)) (hg : Hid (Wf g)) :
    Calls Tryd.prog 27 #[.int .i64 1, relv n f, relv m g] w fun e w' => e = .returned (relv (alN n f m g) (matF (alN n f m g).toNat (hAnd (alN n f m g).toNat (alF n f m g) (alG n f m g)))) ∧ Below w.heap.size w w' := by
  have c1 : Hid (∀ W, Calls Tryd.prog 24 #[relv n f] W fun e w' => e = .returned (relv (nN n f) (nF n f)) ∧ Below W.heap.size W w') := fun W => rright_any n f W hf
  have c2 : Hid (∀ W, Calls Tryd.prog 24 #[relv m g] W fun e w' => e = .returned (relv (nN m g) (nF m g)) ∧ Below W.heap.size W w') := fun W => rright_any m g W hg
  by_cases hN : nN n f = nN m g
  · have e1 : alN n f m g = nN n f := if_pos hN
    have e2 : alF n f m g = nF n f := if_pos hN
    have e3 : alG n f m g = nF m g := if_pos hN
    rw [e1, e2, e3]
    obtain ⟨N, h1, hN64, h3⟩ := n_right' n f hf.out
    obtain ⟨M, k1, k2, k3⟩ := n_right' m g hg.out
    obtain rfl : N = M := by rw [h1, k1] at hN; omega
    rw [h1] at c1 ⊢
    rw [k1] at c2
    rw [Int.toNat_natCast]
    have wF : Hid (Wf (nF n f)) := h3.wf
    have wG : Hid (Wf (nF m g)) := k3.wf
    generalize nF n f = F at *
    generalize nF m g = G at *
    clear hN e1 e2 e3 h1 k1 k2 h3 k3
    have cF : Hid (∀ a b W, a < N → b < N → Calls Tryd.prog 23 #[relv N F, .int .i64 (a : Nat), .int .i64 (b : Nat)] W fun e w' => e = .returned (.bool ((F a).testBit b)) ∧ Below W.heap.size W w') := fun a b W ha hb => by
      have := rhas_any N hN64 F a b W wF
      rw [hasE_in N F a b ha hb] at this
      exact this
    have cG : Hid (∀ a b W, a < N → b < N → Calls Tryd.prog 23 #[relv N G, .int .i64 (a : Nat), .int .i64 (b : Nat)] W fun e w' => e = .returned (.bool ((G a).testBit b)) ∧ Below W.heap.size W w') := fun a b W ha hb => by
      have := rhas_any N hN64 G a b W wG
      rw [hasE_in N G a b ha hb] at this
      exact this
    clear wF wG
    have tk1 : True := trivial
    have tk2 : True := trivial
    have tk3 : True := trivial
    have tk4 : True := trivial
    go_enter Tryd.func27, Tryd.ntmps27
    go_wp2_with (first
      | (refine wpList_boxR rfl _ rfl rfl ?_; clear tk1; intro W1 b4 F1 r4; have B1 := Fresh.trans (Below.refl _ w) (Nat.le_refl _) F1)
      | (refine wpList_boxR rfl _ rfl rfl ?_; intro W2 b5 F2 r5; replace B1 := Fresh.trans B1 B1.size F2; replace r4 := r4.fresh F2)
      | (refine wpList_allocR rfl rfl ?_; clear tk2; intro W3 b6 F3 r6; replace B1 := Fresh.trans B1 B1.size F3; replace r4 := r4.fresh F3; replace r5 := r5.fresh F3; have hb4 : w.heap.size ≤ b4 := (by rw [F1.at']; exact Nat.le_refl _); have hb5 : b4 < b5 := (by rw [F2.at', F1.size]; omega); have hb6 : b5 < b6 := (by rw [F3.at', F2.size]; omega); have hz3 := F3.size; clear F1 F2 F3)
      | (refine wpList_allocR rfl rfl ?_; intro W4 b7 F4 r7; replace B1 := Fresh.trans B1 B1.size F4; replace r4 := r4.fresh F4; replace r5 := r5.fresh F4; replace r6 := r6.fresh F4; have hb7 : b6 < b7 := (by rw [F4.at']; exact hb67); clear F4)
      | (refine wpList_loadR rfl _ rfl rfl r4 ?_)
      | (refine wpList_loadR rfl _ rfl rfl r5 ?_)
      | (refine wpList_buildRN rfl _ rfl rfl ?_)
      | (go_at_call 24; clear tk3; refine (c1.out _).mono ?_; rintro e w' ⟨rfl, hw'⟩; replace r4 := r4.grown hw'; replace r5 := r5.grown hw'; replace r6 := r6.grown hw'; replace B1 := B1.trans (hw'.mono B1.size); clear hw')
      | (go_at_call 24; refine (c2.out _).mono ?_; rintro e w' ⟨rfl, hw'⟩; replace r4 := r4.grown hw'; replace r5 := r5.grown hw'; replace r6 := r6.grown hw'; replace B1 := B1.trans (hw'.mono B1.size); clear hw')
      | (refine wpList_storeR rfl _ _ rfl rfl rfl r4 ?_; clear tk4; intro W5 U5 q4; replace B1 := U5.trans B1 (by omega); replace r5 := r5.upd U5 (by omega); replace r6 := r6.upd U5 (by omega); clear U5 r4; have r4 := q4; clear q4)
      | (refine wpList_storeR rfl _ _ rfl rfl rfl r5 ?_; intro W5 U5 q5; replace B1 := U5.trans B1 (by omega); replace r4 := r4.upd U5 (by omega); replace r6 := r6.upd U5 (by omega); clear U5 r5; have r5 := q5; clear q5; have cn4 := r4.n; have cn5 := r5.n; have hb67 := r6.lt)
      | (refine wpList_storeR rfl _ _ rfl rfl rfl r7 ?_; intro W5 U5 q7; replace B1 := U5.trans B1 (by omega); replace r4 := r4.upd U5 (by omega); replace r5 := r5.upd U5 (by omega); replace r6 := r6.upd U5 (by omega); clear U5 r7))
    clear cn4 cn5 hb67 hz3 c1 c2
    go_loopw [8] (fun i wr => ∃ k : Nat, k ≤ N ∧ i = .int .i64 k ∧ IsR wr b7 N (matTo N (hAnd N F G) k 0) ∧ IsR wr b4 N F ∧ IsR wr b5 N G ∧ IsR wr b6 0 void ∧ Below w.heap.size w wr) (fun i _ => N - (intOf i).toNat)
    case atStart => exact ⟨0, by omega, rfl, q7.congr (fun j _ => by rw [matTo_start]; rfl), r4, r5, r6, B1⟩
    case round =>
      clear r4 r5 r6 q7 B1
      obtain ⟨k, hk, rfl, q7, q4, q5, q6, BB⟩ := hrel
      have cn4 := q4.n
      by_cases hlt : k < N
      · have hki : (k : Int) < (N : Int) := by omega
        go_wp2
        go_loopw [9] (fun i wr => ∃ m : Nat, m ≤ N ∧ i = .int .i64 m ∧ IsR wr b7 N (matTo N (hAnd N F G) k m) ∧ IsR wr b4 N F ∧ IsR wr b5 N G ∧ IsR wr b6 0 void ∧ Below w.heap.size w wr) (fun i _ => N - (intOf i).toNat)
        case atStart => exact ⟨0, by omega, rfl, q7, q4, q5, q6, BB⟩
        case round =>
          clear q4 q5 q6 q7 BB cn4
          obtain ⟨m, hm, rfl, q7, q4, q5, q6, BB⟩ := hrel
          have cn4 := q4.n
          by_cases hml : m < N
          · have hmi : (m : Int) < (N : Int) := by omega
            cases hp : (F k).testBit m <;> cases hq : (G k).testBit m
            · have HH : Hid (hAnd N F G k m = false) := (show hAnd N F G k m = _ by simp [hAnd, hp, hq])
              have e1 := fun W => cF.out k m W hlt hml
              have e2 := fun W => cG.out k m W hlt hml
              rw [hp] at e1; rw [hq] at e2
              clear hp hq
              have tk5 : True := trivial
              obtain ⟨V, hV⟩ : ∃ V, V = wr := ⟨_, rfl⟩
              clear hV V
              go_wp2_with (first
                | (refine wpList_loadRg rfl _ rfl rfl q4 ?_)
                | (refine wpList_loadRg rfl _ rfl rfl q5 ?_)
                | (go_at_call 23; clear tk5; refine (e1 _).mono ?_; rintro e V ⟨rfl, hb⟩; replace q4 := q4.grown hb; replace q5 := q5.grown hb; replace q6 := q6.grown hb; replace q7 := q7.grown hb; replace BB := BB.trans (hb.mono BB.size); clear hb cn4; have cn4 := q4.n)
                | (go_at_call 23; refine (e2 _).mono ?_; rintro e V ⟨rfl, hb⟩; replace q4 := q4.grown hb; replace q5 := q5.grown hb; replace q6 := q6.grown hb; replace q7 := q7.grown hb; replace BB := BB.trans (hb.mono BB.size); clear hb cn4; have cn4 := q4.n))
              have HQ : Hid (IsR V b7 N (matTo N (hAnd N F G) k (m + 1))) := q7.congr (fun j _ => matTo_no N (hAnd N F G) k m HH.out j)
              clear q7 cF cG HH
              go_roundw
              case rel => exact ⟨m + 1, by omega, by simp, HQ.out, q4, q5, q6, BB⟩
              case measure => simp [intOf]; omega
            · have HH : Hid (hAnd N F G k m = false) := (show hAnd N F G k m = _ by simp [hAnd, hp, hq])
              have e1 := fun W => cF.out k m W hlt hml
              have e2 := fun W => cG.out k m W hlt hml
              rw [hp] at e1; rw [hq] at e2
              clear hp hq
              have tk5 : True := trivial
              obtain ⟨V, hV⟩ : ∃ V, V = wr := ⟨_, rfl⟩
              clear hV V
              go_wp2_with (first
                | (refine wpList_loadRg rfl _ rfl rfl q4 ?_)
                | (refine wpList_loadRg rfl _ rfl rfl q5 ?_)
                | (go_at_call 23; clear tk5; refine (e1 _).mono ?_; rintro e V ⟨rfl, hb⟩; replace q4 := q4.grown hb; replace q5 := q5.grown hb; replace q6 := q6.grown hb; replace q7 := q7.grown hb; replace BB := BB.trans (hb.mono BB.size); clear hb cn4; have cn4 := q4.n)
                | (go_at_call 23; refine (e2 _).mono ?_; rintro e V ⟨rfl, hb⟩; replace q4 := q4.grown hb; replace q5 := q5.grown hb; replace q6 := q6.grown hb; replace q7 := q7.grown hb; replace BB := BB.trans (hb.mono BB.size); clear hb cn4; have cn4 := q4.n))
              have HQ : Hid (IsR V b7 N (matTo N (hAnd N F G) k (m + 1))) := q7.congr (fun j _ => matTo_no N (hAnd N F G) k m HH.out j)
              clear q7 cF cG HH
              go_roundw
              case rel => exact ⟨m + 1, by omega, by simp, HQ.out, q4, q5, q6, BB⟩
              case measure => simp [intOf]; omega
            · have HH : Hid (hAnd N F G k m = false) := (show hAnd N F G k m = _ by simp [hAnd, hp, hq])
              have e1 := fun W => cF.out k m W hlt hml
              have e2 := fun W => cG.out k m W hlt hml
              rw [hp] at e1; rw [hq] at e2
              clear hp hq
              have tk5 : True := trivial
              obtain ⟨V, hV⟩ : ∃ V, V = wr := ⟨_, rfl⟩
              clear hV V
              go_wp2_with (first
                | (refine wpList_loadRg rfl _ rfl rfl q4 ?_)
                | (refine wpList_loadRg rfl _ rfl rfl q5 ?_)
                | (go_at_call 23; clear tk5; refine (e1 _).mono ?_; rintro e V ⟨rfl, hb⟩; replace q4 := q4.grown hb; replace q5 := q5.grown hb; replace q6 := q6.grown hb; replace q7 := q7.grown hb; replace BB := BB.trans (hb.mono BB.size); clear hb cn4; have cn4 := q4.n)
                | (go_at_call 23; refine (e2 _).mono ?_; rintro e V ⟨rfl, hb⟩; replace q4 := q4.grown hb; replace q5 := q5.grown hb; replace q6 := q6.grown hb; replace q7 := q7.grown hb; replace BB := BB.trans (hb.mono BB.size); clear hb cn4; have cn4 := q4.n))
              have HQ : Hid (IsR V b7 N (matTo N (hAnd N F G) k (m + 1))) := q7.congr (fun j _ => matTo_no N (hAnd N F G) k m HH.out j)
              clear q7 cF cG HH
              go_roundw
              case rel => exact ⟨m + 1, by omega, by simp, HQ.out, q4, q5, q6, BB⟩
              case measure => simp [intOf]; omega
            · have HH : Hid (hAnd N F G k m = true) := (show hAnd N F G k m = _ by simp [hAnd, hp, hq])
              have e1 := fun W => cF.out k m W hlt hml
              have e2 := fun W => cG.out k m W hlt hml
              rw [hp] at e1; rw [hq] at e2
              clear hp hq
              have tk5 : True := trivial
              obtain ⟨V, hV⟩ : ∃ V, V = wr := ⟨_, rfl⟩
              clear hV V
              go_wp2_with (first
                | (refine wpList_loadRg rfl _ rfl rfl q4 ?_)
                | (refine wpList_loadRg rfl _ rfl rfl q5 ?_)
                | (go_at_call 23; clear tk5; refine (e1 _).mono ?_; rintro e V ⟨rfl, hb⟩; replace q4 := q4.grown hb; replace q5 := q5.grown hb; replace q6 := q6.grown hb; replace q7 := q7.grown hb; replace BB := BB.trans (hb.mono BB.size); clear hb cn4; have cn4 := q4.n)
                | (go_at_call 23; refine (e2 _).mono ?_; rintro e V ⟨rfl, hb⟩; replace q4 := q4.grown hb; replace q5 := q5.grown hb; replace q6 := q6.grown hb; replace q7 := q7.grown hb; replace BB := BB.trans (hb.mono BB.size); clear hb cn4; have cn4 := q4.n))
              have hrow := q7.row k (by omega)
              rw [matTo_at] at hrow
              have hxl := rowB_lt (hAnd N F G k) m (by omega)
              have hfz := q7.frozen (1 + k)
              have hw := wrap_pow m (by omega)
              have hor := or_pow (rowB (hAnd N F G k) m) m hxl (by omega)
              have U := Upd.setCell V b7 (1 + k) (.int .u64 ((rowB (hAnd N F G k) m ||| 2 ^ m : Nat) : Int))
              have HQ : Hid (IsR (V.setCell ⟨b7, 1 + k, none⟩ (.int .u64 ((rowB (hAnd N F G k) m ||| 2 ^ m : Nat) : Int))) b7 N (matTo N (hAnd N F G) k (m + 1)) ∧ IsR (V.setCell ⟨b7, 1 + k, none⟩ (.int .u64 ((rowB (hAnd N F G k) m ||| 2 ^ m : Nat) : Int))) b4 N F ∧ IsR (V.setCell ⟨b7, 1 + k, none⟩ (.int .u64 ((rowB (hAnd N F G k) m ||| 2 ^ m : Nat) : Int))) b5 N G ∧ IsR (V.setCell ⟨b7, 1 + k, none⟩ (.int .u64 ((rowB (hAnd N F G k) m ||| 2 ^ m : Nat) : Int))) b6 0 void ∧ Below w.heap.size w (V.setCell ⟨b7, 1 + k, none⟩ (.int .u64 ((rowB (hAnd N F G k) m ||| 2 ^ m : Nat) : Int)))) := ⟨(q7.set k (rowB (hAnd N F G k) m ||| 2 ^ m) (by omega)).congr (fun j _ => matTo_yes N (hAnd N F G) k m HH.out j), q4.upd U (by omega), q5.upd U (by omega), q6.upd U (by omega), U.trans BB (by omega)⟩
              have hki64 : (k : Int) < 64 := by omega
              clear U q4 q5 q6 q7 BB cF cG HH hxl
              generalize rowB (hAnd N F G k) m ||| 2 ^ m = z at *
              generalize rowB (hAnd N F G k) m = z0 at *
              go_region
              go_wp2
              go_roundw
              case rel => exact ⟨m + 1, by omega, by simp, HQ.out.1.drew, HQ.out.2.1.drew, HQ.out.2.2.1.drew, HQ.out.2.2.2.1.drew, HQ.out.2.2.2.2.drew⟩
              case measure => simp [intOf]; omega
          · obtain rfl : m = N := by omega
            have HX : Hid (IsR wr b7 m (matTo m (hAnd m F G) (k + 1) 0)) := q7.congr (fun j _ => matTo_next m (hAnd m F G) k j)
            clear cF cG q7
            go_wp2
            go_roundw
            case rel => exact ⟨k + 1, by omega, by simp, HX.out, q4, q5, q6, BB⟩
            case measure => simp [intOf]; omega
      · obtain rfl : k = N := by omega
        clear cF cG
        go_wp2_with (first
          | (refine wpList_loadR rfl _ rfl rfl q7 ?_)
          | (refine wpList_storeR rfl _ _ rfl rfl rfl q6 ?_; intro W9 U9 r9))
        refine ret_R rfl rfl rfl r9 ⟨rfl, U9.trans BB (by omega)⟩
  · have e1 : alN n f m g = 0 := if_neg hN
    rw [e1]
    have HV : Hid (relv 0 (matF (Int.toNat 0) (hAnd (Int.toNat 0) (alF n f m g) (alG n f m g))) = relv 0 void) := relv_congr rfl (fun j _ => by rw [show Int.toNat 0 = 0 from rfl, matF_void]; rfl)
    clear e1
    have tk1 : True := trivial
    have tk3 : True := trivial
    have tk4 : True := trivial
    go_enter Tryd.func27, Tryd.ntmps27
    go_wp2_with (first
      | (refine wpList_boxR rfl _ rfl rfl ?_; clear tk1; intro W1 b4 F1 r4; have B1 := Fresh.trans (Below.refl _ w) (Nat.le_refl _) F1)
      | (refine wpList_boxR rfl _ rfl rfl ?_; intro W2 b5 F2 r5; replace B1 := Fresh.trans B1 B1.size F2; replace r4 := r4.fresh F2)
      | (refine wpList_allocR rfl rfl ?_; intro W3 b6 F3 r6; replace B1 := Fresh.trans B1 B1.size F3; replace r4 := r4.fresh F3; replace r5 := r5.fresh F3; have hb4 : w.heap.size ≤ b4 := (by rw [F1.at']; exact Nat.le_refl _); have hb5 : b4 < b5 := (by rw [F2.at', F1.size]; omega); have hb6 : b5 < b6 := (by rw [F3.at', F2.size]; omega); clear F1 F2 F3)
      | (refine wpList_loadR rfl _ rfl rfl r4 ?_)
      | (refine wpList_loadR rfl _ rfl rfl r5 ?_)
      | (refine wpList_buildR0 rfl rfl ?_)
      | (go_at_call 24; clear tk3; refine (c1.out _).mono ?_; rintro e w' ⟨rfl, hw'⟩; replace r4 := r4.grown hw'; replace r5 := r5.grown hw'; replace r6 := r6.grown hw'; replace B1 := B1.trans (hw'.mono B1.size); clear hw')
      | (go_at_call 24; refine (c2.out _).mono ?_; rintro e w' ⟨rfl, hw'⟩; replace r4 := r4.grown hw'; replace r5 := r5.grown hw'; replace r6 := r6.grown hw'; replace B1 := B1.trans (hw'.mono B1.size); clear hw')
      | (refine wpList_storeR rfl _ _ rfl rfl rfl r4 ?_; clear tk4; intro W5 U5 q4; replace B1 := U5.trans B1 (by omega); replace r5 := r5.upd U5 (by omega); replace r6 := r6.upd U5 (by omega); clear U5 r4; have r4 := q4; clear q4)
      | (refine wpList_storeR rfl _ _ rfl rfl rfl r5 ?_; intro W5 U5 q5; replace B1 := U5.trans B1 (by omega); replace r4 := r4.upd U5 (by omega); replace r6 := r6.upd U5 (by omega); clear U5 r5; have r5 := q5; clear q5; have cn4 := r4.n; have cn5 := r5.n)
      | (refine wpList_storeR rfl _ _ rfl rfl rfl r6 ?_; intro W5 U5 q6; replace B1 := U5.trans B1 (by omega)))
    refine ret_R rfl rfl rfl q6 ⟨by rw [HV.out], B1⟩

set_option maxRecDepth 100000 in
set_option maxHeartbeats 2000000 in
theorem two2_any (n : Int) (f : Nat → Nat) (m : Int) (g : Nat → Nat) (w : World) (hf : Hid (Wf f)) (hg : Hid (Wf g)) :
    Calls Tryd.prog 27 #[.int .i64 2, relv n f, relv m g] w fun e w' => e = .returned (relv (alN n f m g) (matF (alN n f m g).toNat (hSub (alN n f m g).toNat (alF n f m g) (alG n f m g)))) ∧ Below w.heap.size w w' := by
  have c1 : Hid (∀ W, Calls Tryd.prog 24 #[relv n f] W fun e w' => e = .returned (relv (nN n f) (nF n f)) ∧ Below W.heap.size W w') := fun W => rright_any n f W hf
  have c2 : Hid (∀ W, Calls Tryd.prog 24 #[relv m g] W fun e w' => e = .returned (relv (nN m g) (nF m g)) ∧ Below W.heap.size W w') := fun W => rright_any m g W hg
  by_cases hN : nN n f = nN m g
  · have e1 : alN n f m g = nN n f := if_pos hN
    have e2 : alF n f m g = nF n f := if_pos hN
    have e3 : alG n f m g = nF m g := if_pos hN
    rw [e1, e2, e3]
    obtain ⟨N, h1, hN64, h3⟩ := n_right' n f hf.out
    obtain ⟨M, k1, k2, k3⟩ := n_right' m g hg.out
    obtain rfl : N = M := by rw [h1, k1] at hN; omega
    rw [h1] at c1 ⊢
    rw [k1] at c2
    rw [Int.toNat_natCast]
    have wF : Hid (Wf (nF n f)) := h3.wf
    have wG : Hid (Wf (nF m g)) := k3.wf
    generalize nF n f = F at *
    generalize nF m g = G at *
    clear hN e1 e2 e3 h1 k1 k2 h3 k3
    have cF : Hid (∀ a b W, a < N → b < N → Calls Tryd.prog 23 #[relv N F, .int .i64 (a : Nat), .int .i64 (b : Nat)] W fun e w' => e = .returned (.bool ((F a).testBit b)) ∧ Below W.heap.size W w') := fun a b W ha hb => by
      have := rhas_any N hN64 F a b W wF
      rw [hasE_in N F a b ha hb] at this
      exact this
    have cG : Hid (∀ a b W, a < N → b < N → Calls Tryd.prog 23 #[relv N G, .int .i64 (a : Nat), .int .i64 (b : Nat)] W fun e w' => e = .returned (.bool ((G a).testBit b)) ∧ Below W.heap.size W w') := fun a b W ha hb => by
      have := rhas_any N hN64 G a b W wG
      rw [hasE_in N G a b ha hb] at this
      exact this
    clear wF wG
    have tk1 : True := trivial
    have tk2 : True := trivial
    have tk3 : True := trivial
    have tk4 : True := trivial
    go_enter Tryd.func27, Tryd.ntmps27
    go_wp2_with (first
      | (refine wpList_boxR rfl _ rfl rfl ?_; clear tk1; intro W1 b4 F1 r4; have B1 := Fresh.trans (Below.refl _ w) (Nat.le_refl _) F1)
      | (refine wpList_boxR rfl _ rfl rfl ?_; intro W2 b5 F2 r5; replace B1 := Fresh.trans B1 B1.size F2; replace r4 := r4.fresh F2)
      | (refine wpList_allocR rfl rfl ?_; clear tk2; intro W3 b6 F3 r6; replace B1 := Fresh.trans B1 B1.size F3; replace r4 := r4.fresh F3; replace r5 := r5.fresh F3; have hb4 : w.heap.size ≤ b4 := (by rw [F1.at']; exact Nat.le_refl _); have hb5 : b4 < b5 := (by rw [F2.at', F1.size]; omega); have hb6 : b5 < b6 := (by rw [F3.at', F2.size]; omega); have hz3 := F3.size; clear F1 F2 F3)
      | (refine wpList_allocR rfl rfl ?_; intro W4 b7 F4 r7; replace B1 := Fresh.trans B1 B1.size F4; replace r4 := r4.fresh F4; replace r5 := r5.fresh F4; replace r6 := r6.fresh F4; have hb7 : b6 < b7 := (by rw [F4.at']; exact hb67); clear F4)
      | (refine wpList_loadR rfl _ rfl rfl r4 ?_)
      | (refine wpList_loadR rfl _ rfl rfl r5 ?_)
      | (refine wpList_buildRN rfl _ rfl rfl ?_)
      | (go_at_call 24; clear tk3; refine (c1.out _).mono ?_; rintro e w' ⟨rfl, hw'⟩; replace r4 := r4.grown hw'; replace r5 := r5.grown hw'; replace r6 := r6.grown hw'; replace B1 := B1.trans (hw'.mono B1.size); clear hw')
      | (go_at_call 24; refine (c2.out _).mono ?_; rintro e w' ⟨rfl, hw'⟩; replace r4 := r4.grown hw'; replace r5 := r5.grown hw'; replace r6 := r6.grown hw'; replace B1 := B1.trans (hw'.mono B1.size); clear hw')
      | (refine wpList_storeR rfl _ _ rfl rfl rfl r4 ?_; clear tk4; intro W5 U5 q4; replace B1 := U5.trans B1 (by omega); replace r5 := r5.upd U5 (by omega); replace r6 := r6.upd U5 (by omega); clear U5 r4; have r4 := q4; clear q4)
      | (refine wpList_storeR rfl _ _ rfl rfl rfl r5 ?_; intro W5 U5 q5; replace B1 := U5.trans B1 (by omega); replace r4 := r4.upd U5 (by omega); replace r6 := r6.upd U5 (by omega); clear U5 r5; have r5 := q5; clear q5; have cn4 := r4.n; have cn5 := r5.n; have hb67 := r6.lt)
      | (refine wpList_storeR rfl _ _ rfl rfl rfl r7 ?_; intro W5 U5 q7; replace B1 := U5.trans B1 (by omega); replace r4 := r4.upd U5 (by omega); replace r5 := r5.upd U5 (by omega); replace r6 := r6.upd U5 (by omega); clear U5 r7))
    clear cn4 cn5 hb67 hz3 c1 c2
    go_loopw [8] (fun i wr => ∃ k : Nat, k ≤ N ∧ i = .int .i64 k ∧ IsR wr b7 N (matTo N (hSub N F G) k 0) ∧ IsR wr b4 N F ∧ IsR wr b5 N G ∧ IsR wr b6 0 void ∧ Below w.heap.size w wr) (fun i _ => N - (intOf i).toNat)
    case atStart => exact ⟨0, by omega, rfl, q7.congr (fun j _ => by rw [matTo_start]; rfl), r4, r5, r6, B1⟩
    case round =>
      clear r4 r5 r6 q7 B1
      obtain ⟨k, hk, rfl, q7, q4, q5, q6, BB⟩ := hrel
      have cn4 := q4.n
      by_cases hlt : k < N
      · have hki : (k : Int) < (N : Int) := by omega
        go_wp2
        go_loopw [9] (fun i wr => ∃ m : Nat, m ≤ N ∧ i = .int .i64 m ∧ IsR wr b7 N (matTo N (hSub N F G) k m) ∧ IsR wr b4 N F ∧ IsR wr b5 N G ∧ IsR wr b6 0 void ∧ Below w.heap.size w wr) (fun i _ => N - (intOf i).toNat)
        case atStart => exact ⟨0, by omega, rfl, q7, q4, q5, q6, BB⟩
        case round =>
          clear q4 q5 q6 q7 BB cn4
          obtain ⟨m, hm, rfl, q7, q4, q5, q6, BB⟩ := hrel
          have cn4 := q4.n
          by_cases hml : m < N
          · have hmi : (m : Int) < (N : Int) := by omega
            cases hp : (F k).testBit m <;> cases hq : (G k).testBit m
            · have HH : Hid (hSub N F G k m = false) := (show hSub N F G k m = _ by simp [hSub, hp, hq])
              have e1 := fun W => cF.out k m W hlt hml
              have e2 := fun W => cG.out k m W hlt hml
              rw [hp] at e1; rw [hq] at e2
              clear hp hq
              have tk5 : True := trivial
              obtain ⟨V, hV⟩ : ∃ V, V = wr := ⟨_, rfl⟩
              clear hV V
              go_wp2_with (first
                | (refine wpList_loadRg rfl _ rfl rfl q4 ?_)
                | (refine wpList_loadRg rfl _ rfl rfl q5 ?_)
                | (go_at_call 23; clear tk5; refine (e1 _).mono ?_; rintro e V ⟨rfl, hb⟩; replace q4 := q4.grown hb; replace q5 := q5.grown hb; replace q6 := q6.grown hb; replace q7 := q7.grown hb; replace BB := BB.trans (hb.mono BB.size); clear hb cn4; have cn4 := q4.n)
                | (go_at_call 23; refine (e2 _).mono ?_; rintro e V ⟨rfl, hb⟩; replace q4 := q4.grown hb; replace q5 := q5.grown hb; replace q6 := q6.grown hb; replace q7 := q7.grown hb; replace BB := BB.trans (hb.mono BB.size); clear hb cn4; have cn4 := q4.n))
              have HQ : Hid (IsR V b7 N (matTo N (hSub N F G) k (m + 1))) := q7.congr (fun j _ => matTo_no N (hSub N F G) k m HH.out j)
              clear q7 cF cG HH
              go_roundw
              case rel => exact ⟨m + 1, by omega, by simp, HQ.out, q4, q5, q6, BB⟩
              case measure => simp [intOf]; omega
            · have HH : Hid (hSub N F G k m = false) := (show hSub N F G k m = _ by simp [hSub, hp, hq])
              have e1 := fun W => cF.out k m W hlt hml
              have e2 := fun W => cG.out k m W hlt hml
              rw [hp] at e1; rw [hq] at e2
              clear hp hq
              have tk5 : True := trivial
              obtain ⟨V, hV⟩ : ∃ V, V = wr := ⟨_, rfl⟩
              clear hV V
              go_wp2_with (first
                | (refine wpList_loadRg rfl _ rfl rfl q4 ?_)
                | (refine wpList_loadRg rfl _ rfl rfl q5 ?_)
                | (go_at_call 23; clear tk5; refine (e1 _).mono ?_; rintro e V ⟨rfl, hb⟩; replace q4 := q4.grown hb; replace q5 := q5.grown hb; replace q6 := q6.grown hb; replace q7 := q7.grown hb; replace BB := BB.trans (hb.mono BB.size); clear hb cn4; have cn4 := q4.n)
                | (go_at_call 23; refine (e2 _).mono ?_; rintro e V ⟨rfl, hb⟩; replace q4 := q4.grown hb; replace q5 := q5.grown hb; replace q6 := q6.grown hb; replace q7 := q7.grown hb; replace BB := BB.trans (hb.mono BB.size); clear hb cn4; have cn4 := q4.n))
              have HQ : Hid (IsR V b7 N (matTo N (hSub N F G) k (m + 1))) := q7.congr (fun j _ => matTo_no N (hSub N F G) k m HH.out j)
              clear q7 cF cG HH
              go_roundw
              case rel => exact ⟨m + 1, by omega, by simp, HQ.out, q4, q5, q6, BB⟩
              case measure => simp [intOf]; omega
            · have HH : Hid (hSub N F G k m = true) := (show hSub N F G k m = _ by simp [hSub, hp, hq])
              have e1 := fun W => cF.out k m W hlt hml
              have e2 := fun W => cG.out k m W hlt hml
              rw [hp] at e1; rw [hq] at e2
              clear hp hq
              have tk5 : True := trivial
              obtain ⟨V, hV⟩ : ∃ V, V = wr := ⟨_, rfl⟩
              clear hV V
              go_wp2_with (first
                | (refine wpList_loadRg rfl _ rfl rfl q4 ?_)
                | (refine wpList_loadRg rfl _ rfl rfl q5 ?_)
                | (go_at_call 23; clear tk5; refine (e1 _).mono ?_; rintro e V ⟨rfl, hb⟩; replace q4 := q4.grown hb; replace q5 := q5.grown hb; replace q6 := q6.grown hb; replace q7 := q7.grown hb; replace BB := BB.trans (hb.mono BB.size); clear hb cn4; have cn4 := q4.n)
                | (go_at_call 23; refine (e2 _).mono ?_; rintro e V ⟨rfl, hb⟩; replace q4 := q4.grown hb; replace q5 := q5.grown hb; replace q6 := q6.grown hb; replace q7 := q7.grown hb; replace BB := BB.trans (hb.mono BB.size); clear hb cn4; have cn4 := q4.n))
              have hrow := q7.row k (by omega)
              rw [matTo_at] at hrow
              have hxl := rowB_lt (hSub N F G k) m (by omega)
              have hfz := q7.frozen (1 + k)
              have hw := wrap_pow m (by omega)
              have hor := or_pow (rowB (hSub N F G k) m) m hxl (by omega)
              have U := Upd.setCell V b7 (1 + k) (.int .u64 ((rowB (hSub N F G k) m ||| 2 ^ m : Nat) : Int))
              have HQ : Hid (IsR (V.setCell ⟨b7, 1 + k, none⟩ (.int .u64 ((rowB (hSub N F G k) m ||| 2 ^ m : Nat) : Int))) b7 N (matTo N (hSub N F G) k (m + 1)) ∧ IsR (V.setCell ⟨b7, 1 + k, none⟩ (.int .u64 ((rowB (hSub N F G k) m ||| 2 ^ m : Nat) : Int))) b4 N F ∧ IsR (V.setCell ⟨b7, 1 + k, none⟩ (.int .u64 ((rowB (hSub N F G k) m ||| 2 ^ m : Nat) : Int))) b5 N G ∧ IsR (V.setCell ⟨b7, 1 + k, none⟩ (.int .u64 ((rowB (hSub N F G k) m ||| 2 ^ m : Nat) : Int))) b6 0 void ∧ Below w.heap.size w (V.setCell ⟨b7, 1 + k, none⟩ (.int .u64 ((rowB (hSub N F G k) m ||| 2 ^ m : Nat) : Int)))) := ⟨(q7.set k (rowB (hSub N F G k) m ||| 2 ^ m) (by omega)).congr (fun j _ => matTo_yes N (hSub N F G) k m HH.out j), q4.upd U (by omega), q5.upd U (by omega), q6.upd U (by omega), U.trans BB (by omega)⟩
              have hki64 : (k : Int) < 64 := by omega
              clear U q4 q5 q6 q7 BB cF cG HH hxl
              generalize rowB (hSub N F G k) m ||| 2 ^ m = z at *
              generalize rowB (hSub N F G k) m = z0 at *
              go_region
              go_wp2
              go_roundw
              case rel => exact ⟨m + 1, by omega, by simp, HQ.out.1.drew, HQ.out.2.1.drew, HQ.out.2.2.1.drew, HQ.out.2.2.2.1.drew, HQ.out.2.2.2.2.drew⟩
              case measure => simp [intOf]; omega
            · have HH : Hid (hSub N F G k m = false) := (show hSub N F G k m = _ by simp [hSub, hp, hq])
              have e1 := fun W => cF.out k m W hlt hml
              have e2 := fun W => cG.out k m W hlt hml
              rw [hp] at e1; rw [hq] at e2
              clear hp hq
              have tk5 : True := trivial
              obtain ⟨V, hV⟩ : ∃ V, V = wr := ⟨_, rfl⟩
              clear hV V
              go_wp2_with (first
                | (refine wpList_loadRg rfl _ rfl rfl q4 ?_)
                | (refine wpList_loadRg rfl _ rfl rfl q5 ?_)
                | (go_at_call 23; clear tk5; refine (e1 _).mono ?_; rintro e V ⟨rfl, hb⟩; replace q4 := q4.grown hb; replace q5 := q5.grown hb; replace q6 := q6.grown hb; replace q7 := q7.grown hb; replace BB := BB.trans (hb.mono BB.size); clear hb cn4; have cn4 := q4.n)
                | (go_at_call 23; refine (e2 _).mono ?_; rintro e V ⟨rfl, hb⟩; replace q4 := q4.grown hb; replace q5 := q5.grown hb; replace q6 := q6.grown hb; replace q7 := q7.grown hb; replace BB := BB.trans (hb.mono BB.size); clear hb cn4; have cn4 := q4.n))
              have HQ : Hid (IsR V b7 N (matTo N (hSub N F G) k (m + 1))) := q7.congr (fun j _ => matTo_no N (hSub N F G) k m HH.out j)
              clear q7 cF cG HH
              go_roundw
              case rel => exact ⟨m + 1, by omega, by simp, HQ.out, q4, q5, q6, BB⟩
              case measure => simp [intOf]; omega
          · obtain rfl : m = N := by omega
            have HX : Hid (IsR wr b7 m (matTo m (hSub m F G) (k + 1) 0)) := q7.congr (fun j _ => matTo_next m (hSub m F G) k j)
            clear cF cG q7
            go_wp2
            go_roundw
            case rel => exact ⟨k + 1, by omega, by simp, HX.out, q4, q5, q6, BB⟩
            case measure => simp [intOf]; omega
      · obtain rfl : k = N := by omega
        clear cF cG
        go_wp2_with (first
          | (refine wpList_loadR rfl _ rfl rfl q7 ?_)
          | (refine wpList_storeR rfl _ _ rfl rfl rfl q6 ?_; intro W9 U9 r9))
        refine ret_R rfl rfl rfl r9 ⟨rfl, U9.trans BB (by omega)⟩
  · have e1 : alN n f m g = 0 := if_neg hN
    rw [e1]
    have HV : Hid (relv 0 (matF (Int.toNat 0) (hSub (Int.toNat 0) (alF n f m g) (alG n f m g))) = relv 0 void) := relv_congr rfl (fun j _ => by rw [show Int.toNat 0 = 0 from rfl, matF_void]; rfl)
    clear e1
    have tk1 : True := trivial
    have tk3 : True := trivial
    have tk4 : True := trivial
    go_enter Tryd.func27, Tryd.ntmps27
    go_wp2_with (first
      | (refine wpList_boxR rfl _ rfl rfl ?_; clear tk1; intro W1 b4 F1 r4; have B1 := Fresh.trans (Below.refl _ w) (Nat.le_refl _) F1)
      | (refine wpList_boxR rfl _ rfl rfl ?_; intro W2 b5 F2 r5; replace B1 := Fresh.trans B1 B1.size F2; replace r4 := r4.fresh F2)
      | (refine wpList_allocR rfl rfl ?_; intro W3 b6 F3 r6; replace B1 := Fresh.trans B1 B1.size F3; replace r4 := r4.fresh F3; replace r5 := r5.fresh F3; have hb4 : w.heap.size ≤ b4 := (by rw [F1.at']; exact Nat.le_refl _); have hb5 : b4 < b5 := (by rw [F2.at', F1.size]; omega); have hb6 : b5 < b6 := (by rw [F3.at', F2.size]; omega); clear F1 F2 F3)
      | (refine wpList_loadR rfl _ rfl rfl r4 ?_)
      | (refine wpList_loadR rfl _ rfl rfl r5 ?_)
      | (refine wpList_buildR0 rfl rfl ?_)
      | (go_at_call 24; clear tk3; refine (c1.out _).mono ?_; rintro e w' ⟨rfl, hw'⟩; replace r4 := r4.grown hw'; replace r5 := r5.grown hw'; replace r6 := r6.grown hw'; replace B1 := B1.trans (hw'.mono B1.size); clear hw')
      | (go_at_call 24; refine (c2.out _).mono ?_; rintro e w' ⟨rfl, hw'⟩; replace r4 := r4.grown hw'; replace r5 := r5.grown hw'; replace r6 := r6.grown hw'; replace B1 := B1.trans (hw'.mono B1.size); clear hw')
      | (refine wpList_storeR rfl _ _ rfl rfl rfl r4 ?_; clear tk4; intro W5 U5 q4; replace B1 := U5.trans B1 (by omega); replace r5 := r5.upd U5 (by omega); replace r6 := r6.upd U5 (by omega); clear U5 r4; have r4 := q4; clear q4)
      | (refine wpList_storeR rfl _ _ rfl rfl rfl r5 ?_; intro W5 U5 q5; replace B1 := U5.trans B1 (by omega); replace r4 := r4.upd U5 (by omega); replace r6 := r6.upd U5 (by omega); clear U5 r5; have r5 := q5; clear q5; have cn4 := r4.n; have cn5 := r5.n)
      | (refine wpList_storeR rfl _ _ rfl rfl rfl r6 ?_; intro W5 U5 q6; replace B1 := U5.trans B1 (by omega)))
    refine ret_R rfl rfl rfl q6 ⟨by rw [HV.out], B1⟩
end Go.Proofs.YtkccckjiemijeaaDoor

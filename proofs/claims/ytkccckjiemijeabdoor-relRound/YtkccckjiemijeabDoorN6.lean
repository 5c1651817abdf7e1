/- Cycle: the first of the shortest ways round. -/
import Derived.Test.YtkccckjiemijeabDoorN5
import Derived.Deep.LoopGhost
import Derived.Lib.LazyBuf
namespace Go.Proofs.YtkccckjiemijeabDoor
open Go.RowKit Go.Shelf M P
set_option linter.unusedSimpArgs false
set_option linter.unusedVariables false

/-- The best start so far, with its rings. -/
def bestA (rg : Nat → Option (List Nat)) : Nat → Option (Nat × List Nat)
  | 0 => none
  | k + 1 => match bestA rg k, rg k with
    | none, none => none
    | none, some l => some (k, l)
    | some p, none => some p
    | some p, some l => if l.length < p.2.length then some (k, l) else some p

/-- A list that holds the way of the best start. -/
def BestAt (R : Nat → Nat) (base : Nat) (B : Option (Nat × List Nat)) (v : Value) (w : World) : Prop :=
  match B with
  | none => v = .slice none 0 0
  | some p => ∃ o, WayAt R p.1 p.2 o ∧ o.length = p.2.length ∧ w.ownsRow base 3 1 v o.length (encI o)

/-- What Cycle answers. -/
def CycleAns (R : Nat → Nat) (B : Option (Nat × List Nat)) (w : World) (e : Ending) (w' : World) : Prop :=
  Below w.heap.size w w' ∧ ∃ v, e = .returned (.tuple #[v, .bool B.isSome]) ∧ BestAt R w.heap.size B v w'

theorem BestAt.grown {R : Nat → Nat} {base : Nat} {B : Option (Nat × List Nat)} {v : Value} {w w' : World} (h : BestAt R base B v w) (hb : Below w.heap.size w w') : BestAt R base B v w' := by
  cases B with
  | none => exact h
  | some p =>
    obtain ⟨o, h1, h2, h3⟩ := h
    exact ⟨o, h1, h2, own_below h3 hb⟩
theorem way_len {R : Nat → Nat} {a : Nat} {l o : List Nat} (h : WayAt R a l o) : o ≠ [] := fun e => by
  have := h.pos
  rw [e] at this
  simp at this
theorem own_some {W : World} {base k : Nat} {v : Value} {xs : List Value} (h : W.ownsRow base 3 1 v k xs) (hk : k ≠ 0) : ∃ g cap, v = .slice (some ⟨g, 0, none⟩) k cap := by
  rcases h.2 with ⟨rfl, h0⟩ | ⟨g, cap, cur, rfl, _, _, _⟩
  · exact absurd h0 hk
  · exact ⟨g, cap, rfl⟩

set_option maxRecDepth 100000 in
set_option maxHeartbeats 2000000 in
theorem cycle_any (n : Int) (f : Nat → Nat) (hf : Wf f) (N : Nat) (hnN : nN n f = (N : Int)) (w : World) (hT : TabAt w) :
    Calls Tryd.prog 26 #[relv n f] w (CycleAns (nF n f) (bestA (fun a => ringsF (nF n f) (tuF (edgesL N (nF n f))) a 65 0 (2 ^ a) []) N) w) := by
  obtain ⟨M, m1, hN64, h3⟩ := n_right' n f hf
  obtain rfl : N = M := by rw [hnN] at m1; omega
  have hGl : Wf (tuF (edgesL N (nF n f))) := tuF_lt _ (edges_in N hN64 (nF n f))
  have c43 : Hid (∀ W, Calls Tryd.prog 43 #[relv n f] W fun e w' => e = .returned (relv N (nF n f)) ∧ Below W.heap.size W w') := fun W => by
    have := right_any n f W hf
    rwa [hnN] at this
  have c19 : Hid (AnsV 19 #[relv N (nF n f)] (relv N (tuF (edgesL N (nF n f))))) := fun W hT' => by
    have := inv_any N (nF n f) W h3.wf hT'
    rwa [right_nN h3 hN64, right_nF h3 hN64, Int.toNat_natCast] at this
  have c46 : Hid (∀ a, a < 64 → ∀ W, TabAt W → Calls Tryd.prog 46 #[relv N (nF n f), relv N (tuF (edgesL N (nF n f))), .int .i64 (a : Nat)] W (RoundAns (nF n f) a (ringsF (nF n f) (tuF (edgesL N (nF n f))) a 65 0 (2 ^ a) []) W)) := fun a ha W hT' =>
    way_any N N (nF n f) _ h3.wf hGl (fun c b hc hb h => by
      rw [tuF_bit, decide_eq_true_eq] at h
      exact (mem_edges.1 h).2.2) a ha W hT'
  generalize hrg : (fun a => ringsF (nF n f) (tuF (edgesL N (nF n f))) a 65 0 (2 ^ a) []) = rg
  have c46' : Hid (∀ a, a < 64 → ∀ W, TabAt W → Calls Tryd.prog 46 #[relv N (nF n f), relv N (tuF (edgesL N (nF n f))), .int .i64 (a : Nat)] W (RoundAns (nF n f) a (rg a) W)) := by
    rw [← hrg]
    exact c46
  clear c46 hrg hGl h3 hnN m1
  generalize tuF (edgesL N (nF n f)) = G at *
  generalize nF n f = F at *
  have q40 : ∀ (w : World) (a : Option Addr) (n c n' c' : Nat), (binOp .eql 40 (.slice a n c) (.slice none n' c')).run Tryd.prog w = .ok (.bool a.isNone) w := fun w a n c n' c' => Lib.run_eql_slice_nil w _ _ a n c n' c' Tryd.underlying40
  have p40 : ∀ (w : World) (a : Option Addr) (n c : Nat), (binOp .neq 40 (.slice a n c) (.slice none 0 0)).run Tryd.prog w = .ok (.bool (!a.isNone)) w := fun w a n c => Go.run_neq_slice_nil w _ _ a n c Tryd.underlying40
  go_enter Tryd.func26, Tryd.ntmps26
  go_wp2_with (first
    | (refine wpList_boxR rfl _ rfl rfl ?_; intro W1 b1 F1 r1; have B1 := Fresh.trans (Below.refl _ w) (Nat.le_refl _) F1; have hb1 : w.heap.size ≤ b1 := (by rw [F1.at']; exact Nat.le_refl _); clear F1)
    | (refine wpList_loadR rfl _ rfl rfl r1 ?_)
    | (go_at_call 43; refine (c43.out _).mono ?_; rintro e w' ⟨rfl, hw'⟩; replace r1 := r1.grown hw'; replace B1 := B1.trans (hw'.mono B1.size); clear hw')
    | (refine wpList_storeR rfl _ _ rfl rfl rfl r1 ?_; intro W3 U3 q1; replace B1 := U3.trans B1 hb1; clear U3 r1; have r1 := q1; clear q1; have cn1 := r1.n)
    | (go_at_call 19; refine (c19.out _ (hT.below B1)).mono ?_; rintro e w' ⟨rfl, hw'⟩; replace r1 := r1.grown hw'; replace B1 := B1.trans (hw'.mono B1.size); clear hw')
    | (refine wpList_allocR rfl rfl ?_; intro W5 b4 F5 r4; have hb4 : w.heap.size ≤ b4 := (by rw [F5.at']; exact B1.size); have h14 : b1 ≠ b4 := (by rw [F5.at']; have := r1.lt; omega); replace B1 := Fresh.trans B1 B1.size F5; replace r1 := r1.fresh F5; clear F5)
    | (refine wpList_storeR rfl _ _ rfl rfl rfl r4 ?_; intro W6 U6 q4; replace B1 := U6.trans B1 hb4; replace r1 := r1.upd U6 h14; clear U6 r4; have r4 := q4; clear q4; have cn1 := r1.n))
  go_loopg [5, 14] N (fun g h c wr => ∃ k : Nat, g + k = N ∧ c = .int .i64 (k : Nat) ∧ BestAt F w.heap.size (bestA rg k) h wr ∧ IsR wr b1 N F ∧ IsR wr b4 N G ∧ Below w.heap.size w wr)
  case atStart => exact ⟨0, by simp, rfl, rfl, r1, r4, B1⟩
  case round =>
    clear r1 r4 B1 cn1 c43 c19
    obtain ⟨k, hg, rfl, hbest, r1, r4, BB⟩ := hrel
    have hBs := BB.size
    by_cases hlt : k < N
    · have hlti : (k : Int) < (N : Int) := by omega
      have c := c46'.out k (by omega)
      have HB : Hid (bestA rg (k + 1) = match bestA rg k, rg k with
        | none, none => none
        | none, some l => some (k, l)
        | some p, none => some p
        | some p, some l => if l.length < p.2.length then some (k, l) else some p) := rfl
      cases hb0 : bestA rg k with
      | none =>
        rw [hb0] at hbest HB
        obtain rfl := hbest
        go_wp2_with (first
          | (refine wpList_loadR rfl _ rfl rfl r1 ?_)
          | (refine wpList_loadR rfl _ rfl rfl r4 ?_)
          | (go_at_call 46; refine (c _ (hT.below BB)).mono ?_; rintro e W8 ⟨hw', hans⟩; replace r1 := r1.grown hw'; replace r4 := r4.grown hw'; have BC := BB.trans (hw'.mono hBs)
             obtain ⟨v, rfl, hv⟩ : ∃ v, e = .returned v ∧ BestAt F w.heap.size (bestA rg (k + 1)) v W8 := by
               rw [HB.out]
               rcases hans with ⟨h1, h2⟩ | ⟨l, o, v, h1, h2, h3, h4, h5⟩
               · rw [h1]; exact ⟨_, h2, rfl⟩
               · rw [h1]; exact ⟨v, h4, o, h2, h3, own_base h5 hBs⟩
             clear hans hw'))
        go_roundg (gk - 1)
        case measure => omega
        case rel => exact ⟨k + 1, by omega, by simp, hv, r1, r4, BC⟩
      | some p =>
        rw [hb0] at hbest HB
        obtain ⟨o, o1, o2, o3⟩ := hbest
        obtain ⟨g', cap', rfl⟩ := own_some o3 (by have := o1.pos; omega)
        have O2 : Hid (o.length = p.2.length) := o2
        clear o2
        cases hrk : rg k with
        | none =>
          rw [hrk] at c HB
          go_wp2_with (first
            | (refine wpList_loadR rfl _ rfl rfl r1 ?_)
            | (refine wpList_loadR rfl _ rfl rfl r4 ?_)
            | (go_at_call 46; refine (c _ (hT.below BB)).mono ?_; rintro e W8 ⟨hw', hans⟩; replace r1 := r1.grown hw'; replace r4 := r4.grown hw'; have BC := BB.trans (hw'.mono hBs); have o3' := own_below o3 hw'; obtain ⟨-, rfl⟩ | ⟨l, o', v, h1, -⟩ := hans; rotate_left; cases h1))
          go_roundg (gk - 1)
          case measure => omega
          case rel => exact ⟨k + 1, by omega, by simp, by rw [HB.out]; exact ⟨o, o1, O2.out, o3'⟩, r1, r4, BC⟩
        | some l =>
          rw [hrk] at c HB
          by_cases hless : l.length < p.2.length
          · have hli : (l.length : Int) < (o.length : Int) := by have := O2.out; omega
            go_wp2_with (first
              | (refine wpList_loadR rfl _ rfl rfl r1 ?_)
              | (refine wpList_loadR rfl _ rfl rfl r4 ?_)
              | (go_at_call 46; refine (c _ (hT.below BB)).mono ?_; rintro e W8 ⟨hw', hans⟩; replace r1 := r1.grown hw'; replace r4 := r4.grown hw'; have BC := BB.trans (hw'.mono hBs); obtain ⟨h1, -⟩ | ⟨l', o', v, h1, w1, w2, rfl, w4⟩ := hans; cases h1; cases h1; obtain ⟨g2, cap2, rfl⟩ := own_some w4 (by have := w1.pos; omega); have w4' := own_base w4 hBs; rw [w2] at w4'; rw [w2]; have w2' := w2; clear w2 w4 hw'))
            go_roundg (gk - 1)
            case measure => omega
            case rel => exact ⟨k + 1, by omega, by simp, by rw [HB.out]; simp only [if_pos hless]; exact ⟨o', w1, w2', by rw [w2']; exact w4'⟩, r1, r4, BC⟩
          · have hli : ¬ (l.length : Int) < (o.length : Int) := by have := O2.out; omega
            go_wp2_with (first
              | (refine wpList_loadR rfl _ rfl rfl r1 ?_)
              | (refine wpList_loadR rfl _ rfl rfl r4 ?_)
              | (go_at_call 46; refine (c _ (hT.below BB)).mono ?_; rintro e W8 ⟨hw', hans⟩; replace r1 := r1.grown hw'; replace r4 := r4.grown hw'; have BC := BB.trans (hw'.mono hBs); have o3' := own_below o3 hw'; obtain ⟨h1, -⟩ | ⟨l', o', v, h1, w1, w2, rfl, w4⟩ := hans; cases h1; cases h1; obtain ⟨g2, cap2, rfl⟩ := own_some w4 (by have := w1.pos; omega); rw [w2]; clear w2 w4 hw'))
            go_roundg (gk - 1)
            case measure => omega
            case rel => exact ⟨k + 1, by omega, by simp, by rw [HB.out]; simp only [if_neg hless]; exact ⟨o, o1, O2.out, o3'⟩, r1, r4, BC⟩
    · have hlti : ¬ (k : Int) < (N : Int) := by omega
      obtain rfl : k = N := by omega
      cases hb0 : bestA rg k with
      | none =>
        rw [hb0] at hbest
        obtain rfl := hbest
        go_wp2
        exact ⟨rfl, _, results_tmp2 rfl _ _ _, BB, _, rfl, rfl⟩
      | some p =>
        rw [hb0] at hbest
        obtain ⟨o, o1, o2, o3⟩ := hbest
        obtain ⟨g', cap', rfl⟩ := own_some o3 (by have := o1.pos; omega)
        have O2 : Hid (o.length = p.2.length) := o2
        clear o2
        go_wp2
        exact ⟨rfl, _, results_tmp2 rfl _ _ _, BB, _, rfl, o, o1, O2.out, o3⟩
end Go.Proofs.YtkccckjiemijeabDoor

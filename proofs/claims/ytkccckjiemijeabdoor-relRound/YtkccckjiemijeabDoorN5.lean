/- round: the walk. -/
import Derived.Test.YtkccckjiemijeabDoorN4
import Derived.Deep.LoopGhost
namespace Go.Proofs.YtkccckjiemijeabDoor
open Go.RowKit Go.Shelf M P
set_option linter.unusedSimpArgs false
set_option linter.unusedVariables false

/-- What round answers. -/
def RoundAns (R : Nat → Nat) (a : Nat) (O : Option (List Nat)) (w : World) (e : Ending) (w' : World) : Prop :=
  Below w.heap.size w w' ∧ ((O = none ∧ e = .returned (.slice none 0 0)) ∨ ∃ l o v, O = some l ∧ WayAt R a l o ∧ o.length = l.length ∧ e = .returned v ∧ w'.ownsRow w.heap.size 3 1 v o.length (encI o))

theorem lowest_ans (x : Nat) (hx : x < 18446744073709551616) (h0 : x ≠ 0) : AnsV 48 #[.int .u64 (x : Nat)] (.int .i64 (Lib.ctz 64 x : Nat)) := fun W hT => (lowest_any x W hx h0 hT).mono fun e w' ⟨he, hw⟩ => ⟨he, by rw [hw]; exact Below.refl _ _⟩

theorem own_apart {W W' : World} {base base' k k' : Nat} {v v' : Value} {xs xs' : List Value} (h : W.ownsRow base 22 1 v k xs) (h' : W.ownsRow base' 3 1 v' k' xs') (g : W.grownBy W' v'.ownBlock) : W'.ownsRow base 22 1 v k xs := by
  cases hv : v.ownBlock with
  | none => exact h.kept g (.inl hv)
  | some b =>
    refine h.kept g (.inr fun e => ?_)
    rw [hv] at e
    obtain ⟨c1, h1⟩ := own_cells h hv
    obtain ⟨c2, h2⟩ := own_cells h' e.symm
    rw [h1] at h2
    cases h2
theorem isR_append3 {W W' : World} {base k b : Nat} {v : Value} {xs : List Value} {n : Int} {f : Nat → Nat} (own : W.ownsRow base 3 1 v k xs) (g : W.grownBy W' v.ownBlock) (r : IsR W b n f) : IsR W' b n f := by
  refine (g.block b r.lt (fun e => ?_)).trans r
  obtain ⟨cur, hc⟩ := own_cells own e.symm
  rw [show W.heap[b]? = _ from r] at hc
  cases hc

theorem ringsF_len {R G : Nat → Nat} {a : Nat} : ∀ (k seen ring : Nat) (home l : List Nat), ringsF R G a k seen ring home = some l → l.length ≤ home.length + k
  | 0, _, _, _, _, h => by simp [ringsF] at h
  | k + 1, seen, ring, home, l, h => by
    unfold ringsF at h
    split at h
    · cases h
    · split at h
      · cases h; simp
      · have := ringsF_len k _ _ _ l h
        simp at this
        omega

set_option maxRecDepth 100000 in
set_option maxHeartbeats 2000000 in
theorem way_any (n m : Int) (R G : Nat → Nat) (hR : Wf R) (hG : Wf G) (hinv : ∀ c b, c < 64 → b < 64 → (G c).testBit b = true → (R b).testBit c = true) (a : Nat) (ha : a < 64) (w : World) (hT : TabAt w) :
    Calls Tryd.prog 46 #[relv n R, relv m G, .int .i64 (a : Nat)] w (RoundAns R a (ringsF R G a 65 0 (2 ^ a) []) w) := by
  have c54 : Hid (∀ W, TabAt W → Calls Tryd.prog 54 #[relv n R, relv m G, .int .i64 (a : Nat)] W (RingAns (ringsF R G a 65 0 (2 ^ a) []) W)) := fun W hT => rings_any n m R G hR hG a ha W hT
  have HS : Hid (∀ l, ringsF R G a 65 0 (2 ^ a) [] = some l → RingsAt G a l ∧ l ≠ [] ∧ R a &&& l.getD (l.length - 1) 0 ≠ 0) := fun l h => rings_start R G hG a ha l h
  have HB : Hid (∀ l, ringsF R G a 65 0 (2 ^ a) [] = some l → l.length ≤ 65) := fun l h => by have := ringsF_len _ _ _ _ l h; simpa using this
  have HI : Hid (∀ c b, c < 64 → b < 64 → (G c).testBit b = true → (R b).testBit c = true) := hinv
  have HR : Hid (Wf R) := hR
  generalize ringsF R G a 65 0 (2 ^ a) [] = O at *
  clear hR hG hinv
  have hai : (a : Int) < 64 := by omega
  have q80 : ∀ (w : World) (a : Option Addr) (n c n' c' : Nat), (binOp .eql 80 (.slice a n c) (.slice none n' c')).run Tryd.prog w = .ok (.bool a.isNone) w := fun w a n c n' c' => Lib.run_eql_slice_nil w _ _ a n c n' c' Tryd.underlying80
  obtain ⟨i0, hi, hz0, hz1, hz2⟩ := info_parts info3'
  have tk1 : True := trivial
  cases O with
  | none =>
    go_enter Tryd.func46, Tryd.ntmps46
    go_wp2_with (first
      | (refine wpList_boxR rfl _ rfl rfl ?_; clear tk1; intro W1 b3 F1 r3; have B1 := Fresh.trans (Below.refl _ w) (Nat.le_refl _) F1; clear F1)
      | (refine wpList_boxR rfl _ rfl rfl ?_; intro W2 b4 F2 r4; replace B1 := Fresh.trans B1 B1.size F2; replace r3 := r3.fresh F2; clear F2)
      | (refine wpList_loadR rfl _ rfl rfl r3 ?_)
      | (refine wpList_loadR rfl _ rfl rfl r4 ?_)
      | (go_at_call 54; refine (c54.out _ (hT.below B1)).mono ?_; rintro e w' ⟨hw', ⟨-, rfl⟩ | ⟨l, v, hc, -, -⟩⟩; rotate_left; cases hc; replace B1 := B1.trans (hw'.mono B1.size); clear hw'))
    go_ret
    exact ⟨B1, .inl ⟨rfl, rfl⟩⟩
  | some l =>
    obtain ⟨RA, hl0, hlast⟩ := HS.out l rfl
    have HL : Hid (RingsAt G a l ∧ l ≠ [] ∧ R a &&& l.getD (l.length - 1) 0 ≠ 0) := ⟨RA, hl0, hlast⟩
    have hb65 := HB.out l rfl
    clear RA hl0 hlast HS HB
    go_enter Tryd.func46, Tryd.ntmps46
    go_wp2_with (first
      | (refine wpList_boxR rfl _ rfl rfl ?_; clear tk1; intro W1 b3 F1 r3; have B1 := Fresh.trans (Below.refl _ w) (Nat.le_refl _) F1; clear F1)
      | (refine wpList_boxR rfl _ rfl rfl ?_; intro W2 b4 F2 r4; replace B1 := Fresh.trans B1 B1.size F2; replace r3 := r3.fresh F2; clear F2)
      | (refine wpList_loadR rfl _ rfl rfl r3 ?_)
      | (refine wpList_loadR rfl _ rfl rfl r4 ?_)
      | (go_at_call 54; refine (c54.out _ (hT.below B1)).mono ?_; rintro e W3 ⟨hw', ⟨hc, -⟩ | ⟨l', v, hc, rfl, own⟩⟩; cases hc; cases hc; rcases own.2 with ⟨rfl, h0⟩ | ⟨gh, cap, cur, rfl, hgb, hgh, hrest⟩; exact absurd (List.length_eq_zero_iff.1 h0) HL.out.2.1; clear hgb hgh hrest; replace r3 := r3.grown hw'; replace B1 := B1.trans (hw'.mono B1.size); clear hw'))
    have ownA : (W3.alloc (.cells #[.int .i64 (a : Nat)] 3)).ownsRow w.heap.size 3 1 (.slice (some ⟨W3.heap.size, 0, none⟩) 1 1) 1 [.int .i64 (a : Nat)] := World.ownsRow_lit W3 #[.int .i64 (a : Nat)] 1 B1.size (by decide) rfl
    have BA := B1.alloc B1.size (.cells #[.int .i64 (a : Nat)] 3)
    have hlp : 1 ≤ l.length := by have := HL.out.2.1; cases l <;> simp at this ⊢
    go_loopg [8, 9] (l.length - 1) (fun g h c wr => ∃ o : List Nat, Hid (WayAt R a l o) ∧ g + o.length = l.length ∧ c = .int .i64 (o.getD (o.length - 1) 0 : Nat) ∧ wr.ownsRow w.heap.size 3 1 h o.length (encI o) ∧ wr.ownsRow W2.heap.size 22 1 (.slice (some ⟨gh, 0, none⟩) l.length cap) l.length (encU l) ∧ IsR wr b3 n R ∧ Below w.heap.size w wr)
    case atStart => exact ⟨[a], way_one R a ha l HL.out.2.1, by simp; omega, by simp, ownA, own.alloc _, r3.alloc _, BA⟩
    case round =>
      clear ownA BA own r3 B1
      obtain ⟨o, HW, hg, rfl, ownO, ownH, r3, BB⟩ := hrel
      obtain ⟨ado, capo, rfl⟩ := own_form ownO
      have hBs := BB.size
      by_cases hlt : o.length < l.length
      · have hlti : (o.length : Int) < (l.length : Int) := by omega
        have hsome := way_some HI.out HL.out.1 HL.out.2.2 HW.out hlt
        have hnext := way_next HR.out HW.out hlt hsome
        have hx64 : o.getD (o.length - 1) 0 < 64 := HW.out.lt _ (by have := HW.out.pos; omega)
        have hcell := fun w' (hc : Below wr.heap.size wr w') => (own_below ownH hc).cellAt (l.length - o.length) (by have := HW.out.pos; omega)
        have hring : Hid (∀ w', Below wr.heap.size wr w' → w'.cell? ⟨gh, l.length - o.length, none⟩ = some (.int .u64 (l.getD (l.length - o.length) 0 : Nat))) := fun w' hc => by
          have := hcell w' hc
          have hp := HW.out.pos
          rw [this]
          simp [encU, List.getD_eq_getElem?_getD]
          rw [List.getElem?_eq_getElem (by omega)]
          simp
        clear hcell
        have hd : l.length - o.length < l.length := by have := HW.out.pos; omega
        have hdd : ((l.length - o.length : Nat) : Int) = (l.length : Int) - (o.length : Int) := by omega
        have hrl := HL.out.1.lt (l.length - o.length) hd
        have hzl : R (o.getD (o.length - 1) 0) &&& l.getD (l.length - o.length) 0 < 18446744073709551616 := Nat.lt_of_le_of_lt Nat.and_le_left (HR.out _)
        have hand := u64_and_nat (R (o.getD (o.length - 1) 0)) (l.getD (l.length - o.length) 0) (HR.out _) hrl
        have hA := lowest_ans _ hzl hsome
        have HN : Hid (WayAt R a l (o ++ [Lib.ctz 64 (R (o.getD (o.length - 1) 0) &&& l.getD (l.length - o.length) 0)])) := hnext
        clear hsome hnext hrl hzl
        generalize R (o.getD (o.length - 1) 0) &&& l.getD (l.length - o.length) 0 = z at *
        generalize l.getD (l.length - o.length) 0 = ring at *
        generalize o.getD (o.length - 1) 0 = x at *
        obtain ⟨d, hd0⟩ : ∃ d, d = l.length - o.length := ⟨_, rfl⟩
        rw [← hd0] at hring hd hdd
        have hxi : (x : Int) < 64 := by omega
        have hdl : (d : Int) < (l.length : Int) := by omega
        have hdi : (0 : Int) ≤ d := by omega
        have hsub : IntKind.i64.wrap ((l.length : Int) - (o.length : Int)) = (d : Int) := by rw [← hdd]; exact wrap_small d (by omega) (by omega)
        have tW := hT.below BB
        go_wp2_with fail
        refine grow_all (by kernel_rfl) (by kernel_rfl) ?_
        refine wpG_put rfl (v := .int .i64 (x : Nat)) (fun w => by first | rfl | (go_simp; done)) ?_
        try simp only [Act.put, List.setIfInBounds_toArray, List.set_cons_succ, List.set_cons_zero]
        refine wpG_put rfl (v := .pointer (some ⟨b3, 1, none⟩)) (fun w => by first | rfl | (go_simp; done)) ?_
        try simp only [Act.put, List.setIfInBounds_toArray, List.set_cons_succ, List.set_cons_zero]
        refine wpG_put rfl (v := .pointer (some ⟨b3, 1 + x, none⟩)) (fun w => by simp [execOp, go_sem, hx64, hxi]) ?_
        try simp only [Act.put, List.setIfInBounds_toArray, List.set_cons_succ, List.set_cons_zero]
        refine wpG_value rfl (v := .int .u64 (R x : Nat)) (fun w hc => by have := (r3.grown hc).row x hx64; simp [execOp, go_sem, this]) ?_
        try simp only [Act.put, List.setIfInBounds_toArray, List.set_cons_succ, List.set_cons_zero]
        refine wpG_put rfl (v := .slice (some ⟨gh, 0, none⟩) l.length cap) (fun w => by first | rfl | (go_simp; done)) ?_
        try simp only [Act.put, List.setIfInBounds_toArray, List.set_cons_succ, List.set_cons_zero]
        refine wpG_put rfl (v := .slice (some ⟨gh, 0, none⟩) l.length cap) (fun w => by first | rfl | (go_simp; done)) ?_
        try simp only [Act.put, List.setIfInBounds_toArray, List.set_cons_succ, List.set_cons_zero]
        refine wpG_put rfl (v := .int .i64 (l.length : Nat)) (fun w => by first | rfl | (go_simp; done)) ?_
        try simp only [Act.put, List.setIfInBounds_toArray, List.set_cons_succ, List.set_cons_zero]
        refine wpG_put rfl (v := .slice ado o.length capo) (fun w => by first | rfl | (go_simp; done)) ?_
        try simp only [Act.put, List.setIfInBounds_toArray, List.set_cons_succ, List.set_cons_zero]
        refine wpG_put rfl (v := .int .i64 (o.length : Nat)) (fun w => by first | rfl | (go_simp; done)) ?_
        try simp only [Act.put, List.setIfInBounds_toArray, List.set_cons_succ, List.set_cons_zero]
        refine wpG_put rfl (v := .int .i64 (d : Nat)) (fun w => by simp [execOp, go_sem, hsub]) ?_
        try simp only [Act.put, List.setIfInBounds_toArray, List.set_cons_succ, List.set_cons_zero]
        refine wpG_put rfl (v := .pointer (some ⟨gh, d, none⟩)) (fun w => by simp [execOp, go_sem, hdl, hdi]) ?_
        try simp only [Act.put, List.setIfInBounds_toArray, List.set_cons_succ, List.set_cons_zero]
        refine wpG_value rfl (v := .int .u64 (ring : Nat)) (fun w hc => by have := hring.out w hc; simp [execOp, go_sem, this]) ?_
        try simp only [Act.put, List.setIfInBounds_toArray, List.set_cons_succ, List.set_cons_zero]
        refine wpG_put rfl (v := .int .u64 (z : Nat)) (fun w => by simp [execOp, go_sem, hand]) ?_
        try simp only [Act.put, List.setIfInBounds_toArray, List.set_cons_succ, List.set_cons_zero]
        refine wpG_call tW rfl hA (fun w => by first | rfl | (go_simp; done)) ?_
        try simp only [Act.put, List.setIfInBounds_toArray, List.set_cons_succ, List.set_cons_zero]
        refine wpG_put rfl (v := .int .i64 (Lib.ctz 64 z : Nat)) (fun w => by first | rfl | (go_simp; done)) ?_
        try simp only [Act.put, List.setIfInBounds_toArray, List.set_cons_succ, List.set_cons_zero]
        refine wpG_nil ?_
        intro W9 hW9
        try simp only [Act.put, List.setIfInBounds_toArray, List.set_cons_succ, List.set_cons_zero]
        generalize Lib.ctz 64 z = y at *
        have ownO9 := own_below ownO hW9
        have ownH9 := own_below ownH hW9
        replace r3 := r3.grown hW9
        replace BB := BB.trans (hW9.mono BB.size)
        have hBs9 := BB.size
        have own8 := ownO9.alloc (.cells #[.int .i64 (y : Nat)] 3)
        have hnews : Hid (∀ j u, ([.int .i64 (y : Nat)] : List Value)[j]? = some u → (W9.alloc (.cells #[.int .i64 (y : Nat)] 3)).cell? ((⟨W9.heap.size, 0, none⟩ : Addr).add j) = some u) := fun j u hj => by
          cases j with
          | zero => simp at hj; subst hj; exact (Boxed.new W9 3 _).cell
          | succ j => simp at hj
        clear hW9 ownO ownH tW hA hand hring hsub
        go_wp2_with (at_builtin; refine wpList_append_own _ rfl (.tmp 24) (.tmp 26) 40 rfl w.heap.size 3 i0 (.int .i64 0) 1 8 Tryd.underlying40 hi hz0 hz1 hz2 rfl (by decide) _ o.length (encI o) rfl own8 ⟨W9.heap.size, 0, none⟩ 1 1 [.int .i64 (y : Nat)] rfl rfl hnews.out (by simp [Value.oneCell']) (by unfold maxLen; omega) (by omega) (by simp; omega) ?_; intro v1 wa own1 grow1 hif1; clear hif1; have r3' := isR_append3 own8 grow1 (r3.alloc _); have ownH' := own_apart (ownH9.alloc _) own8 grow1; have BC := (BB.alloc BB.size (.cells #[.int .i64 (y : Nat)] 3)).grown grow1 (BB.alloc BB.size _).size (fun k e => (own8.lt k e).1); clear grow1 own8)
        go_roundg (gk - 1)
        case measure => omega
        case rel => exact ⟨o ++ [y], HN, by simp; omega, by simp [List.getD_eq_getElem?_getD], by simpa [encI] using own1, ownH', r3', BC⟩
      · have hlti : ¬ (o.length : Int) < (l.length : Int) := by omega
        go_wp2
        go_ret
        exact ⟨BB, .inr ⟨l, o, _, rfl, HW.out, by have := HW.out.len; omega, rfl, ownO⟩⟩
end Go.Proofs.YtkccckjiemijeabDoor

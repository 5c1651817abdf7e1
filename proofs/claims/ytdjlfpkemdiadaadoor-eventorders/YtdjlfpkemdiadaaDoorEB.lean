/- Rf, of event and of the reference. -/
import Derived.Test.YtdjlfpkemdiadaaDoorXM
namespace Go.Proofs.YtdjlfpkemdiadaaDoor
open Go.RowKit M
set_option linter.unusedSimpArgs false
set_option linter.unusedVariables false

theorem cell_upd {w W : World} {b b' o : Nat} {v : Value} (h : w.cell? ⟨b, o, none⟩ = some v) (U : Upd w W b') (hb : b ≠ b') : W.cell? ⟨b, o, none⟩ = some v := (cell_block (U.block b hb)).trans h
set_option maxRecDepth 100000 in
set_option maxHeartbeats 8000000 in
theorem rf_any (cs : List Value) (ae af : Option Addr) (ne ce nf cf : Nat) (fr : List Int) (w : World) (hl : cs.length = 5) (h0 : cs[0]? = some (.slice ae ne ce)) (h2 : cs[2]? = some (.slice af nf cf))
    (hne : ne ≤ 9223372036854775807) (hnf : fr.length = nf) (hfl : nf ≤ 9223372036854775807) (hcf : nf ≤ cf) (hS : Seg w af (fr.flatMap intE)) :
    Calls Tryd.prog 15 #[.agg cs.toArray] w fun e w' => e = .returned (relv (shN ne) (rfF (shN ne) fr (min nf (shN ne)))) ∧ Below w.heap.size w w' := by
  have ho := fun W => over_any ae ne ce W hne
  have hN64 := shN_le ne
  generalize shN ne = N at *
  obtain ⟨m, hm⟩ : ∃ m, min nf N = m := ⟨_, rfl⟩
  have hm1 : m ≤ nf := by omega
  have hm2 : m ≤ N := by omega
  have hmi : (if (nf : Int) ≤ (N : Int) then (nf : Int) else (N : Int)) = (m : Int) := by split <;> omega
  rw [hm]
  have HS : Hid (Seg w af (fr.flatMap intE)) := hS
  have HF : Hid (fr.length = nf) := hnf
  have HL : Hid (cs.length = 5) := hl
  clear hS hnf hl
  have HM : Hid (min nf N = m) := hm
  clear hm
  have t1 : True := trivial
  rcases (show (N < nf ∧ m = N) ∨ (nf ≤ N ∧ m = nf) by have := HM.out; omega) with ⟨hc, hmm⟩ | ⟨hc, hmm⟩
  all_goals
    have HMM : Hid (m = _) := hmm
    clear hmm hmi
    go_enter Tryd.func15, Tryd.ntmps15
    go_wp2_with (first
      | (refine wpList_boxS rfl 51 _ rfl cs rfl ?_; intro W1 b1 F1 C1; have B1 := F_b F1; have hb1 : w.heap.size ≤ b1 := Nat.le_of_eq F1.at'.symm; clear F1)
      | (clear t1; refine wpList_allocR rfl rfl ?_; intro W2 b2 F2 r2; replace B1 := Below.then B1 (F_b F2); have hb2 : b1 < b2 := (by rw [F2.at']; exact C1.lt); replace C1 := C1.fresh F2; have y0 := (C1.cell 0).trans h0; clear F2)
      | (go_at_call 35; refine (ho _).mono ?_; rintro e W3 ⟨rfl, hw3⟩; replace B1 := Below.then B1 hw3; have hl2 := r2.lt; have hz3 := hw3.size; replace r2 := r2.grown hw3; replace C1 := C1.grown hw3; clear y0 hw3)
      | (refine wpList_allocR rfl rfl ?_; intro W4 b3 F4 r3; replace B1 := Below.then B1 (F_b F4); have hb3 : b2 < b3 := (by rw [F4.at']; omega); replace r2 := r2.fresh F4; replace C1 := C1.fresh F4; clear F4)
      | (refine wpList_storeR rfl _ _ rfl rfl rfl r3 ?_; intro W5 U5 q3; replace B1 := U5.trans B1 (by omega); replace r2 := r2.upd U5 (by omega); replace C1 := C1.upd U5 (by omega); clear U5 r3; have y2 := (C1.cell 2).trans h2; have yn := q3.n))
    clear y2 yn C1 ho h0 h2 hl2 hz3 hfl hcf
    go_loopw [19] (fun i wr => ∃ k : Nat, k ≤ m ∧ i = .int .i64 k ∧ IsR wr b3 N (rfF N fr k) ∧ IsR wr b2 0 void ∧ Hid (Below w.heap.size w wr)) (fun i _ => m - (intOf i).toNat)
    case atStart => exact ⟨0, by omega, rfl, q3.congr (fun i _ => (rfF_start N fr i).symm), r2, B1⟩
    case round =>
      clear r2 q3 B1
      obtain ⟨k, hk, rfl, q3, q2, BB⟩ := hrel
      by_cases hlt : k < m
      · obtain ⟨x, hx⟩ : ∃ x, fr[k]? = some x := ⟨_, List.getElem?_eq_getElem (by rw [HF.out]; omega)⟩
        obtain ⟨ba, oa, ea, hba, ca0⟩ := seg_int HS.out hx
        have ca := (BB.out.cell (p := ⟨ba, oa + k, none⟩) hba).trans ca0
        have yn := q3.n
        have HX : Hid (fr[k]? = some x) := hx
        subst ea
        have hkN : (k : Int) < (N : Int) := by omega
        have hkf : (k : Int) < (nf : Int) := by omega
        have hk64 : (k : Int) < 64 := by omega
        have hk64n : k < 64 := by omega
        clear hx ca0
        by_cases hp : 0 ≤ x ∧ x < N
        · obtain ⟨X, rfl⟩ : ∃ X : Nat, x = (X : Int) := ⟨x.toNat, by omega⟩
          have hXN : X < N := by omega
          have hpl := fun W => place_yes (X : Int) N hp W
          have hX64 : (X : Int) < 64 := by omega
          have hrow := q3.row X (by omega)
          have hfz := q3.frozen (1 + X)
          have hxl := rfF_lt N fr k X (by omega)
          have hw := wrap_pow k hk64n
          have hor := or_pow (rfF N fr k X) k hxl hk64n
          have U := Upd.setCell wr b3 (1 + X) (.int .u64 ((rfF N fr k X ||| 2 ^ k : Nat) : Int))
          have HQ : Hid (IsR (wr.setCell ⟨b3, 1 + X, none⟩ (.int .u64 ((rfF N fr k X ||| 2 ^ k : Nat) : Int))) b3 N (rfF N fr (k + 1)) ∧ IsR (wr.setCell ⟨b3, 1 + X, none⟩ (.int .u64 ((rfF N fr k X ||| 2 ^ k : Nat) : Int))) b2 0 void ∧ Below w.heap.size w (wr.setCell ⟨b3, 1 + X, none⟩ (.int .u64 ((rfF N fr k X ||| 2 ^ k : Nat) : Int)))) :=
            ⟨(q3.set X _ (by omega)).congr (fun j _ => rfF_yes N fr k X j HX.out hXN), q2.upd U (by omega), U.trans BB.out (by omega)⟩
          clear U q3 q2 BB hp HX
          generalize rfF N fr k X ||| 2 ^ k = z at *
          generalize rfF N fr k X = z0 at *
          go_wp2_with (first
            | (go_at_call 36; refine (hpl _).mono ?_; rintro e w' ⟨rfl, hw'⟩; replace hw' := hw'.symm; subst hw'))
          go_region
          go_wp2
          go_roundw
          case rel => exact ⟨k + 1, by omega, by simp, HQ.out.1.drew, HQ.out.2.1.drew, HQ.out.2.2.drew⟩
          case measure => simp [intOf]; omega
        · have hpl := fun W => place_no x N hp W
          have HQ : Hid (IsR wr b3 N (rfF N fr (k + 1)) ∧ IsR wr b2 0 void ∧ Below w.heap.size w wr) := ⟨q3.congr (fun j _ => rfF_no N fr k j x HX.out hp), q2, BB.out⟩
          clear q3 q2 BB hp HX
          go_wp2_with (first
            | (go_at_call 36; refine (hpl _).mono ?_; rintro e w' ⟨rfl, hw'⟩; replace hw' := hw'.symm; subst hw'))
          go_roundw
          case rel => exact ⟨k + 1, by omega, by simp, HQ.out.1, HQ.out.2.1, HQ.out.2.2⟩
          case measure => simp [intOf]; omega
      · have hkm : k = m := by omega
        subst hkm
        have hke := HMM.out
        first
          | (have hkx : ¬ (k : Int) < (N : Int) := (by clear hm1; omega); clear hke)
          | (have hkx : ¬ (k : Int) < (nf : Int) := (by omega); clear hke)
        go_wp2_with (first
          | (refine wpList_loadR rfl _ rfl rfl q3 ?_)
          | (refine wpList_storeR rfl _ _ rfl rfl rfl q2 ?_; intro W4 U4 r4))
        refine ret_R rfl rfl rfl r4 ⟨rfl, U4.trans BB.out (by omega)⟩
end Go.Proofs.YtdjlfpkemdiadaaDoor

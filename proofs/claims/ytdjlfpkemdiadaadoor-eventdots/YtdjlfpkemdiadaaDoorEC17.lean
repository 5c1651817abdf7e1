/- Rf of the reference. -/
import Derived.Test.YtdjlfpkemdiadaaDoorEB
namespace Go.Proofs.YtdjlfpkemdiadaaDoor
open Go.RowKit M
set_option linter.unusedSimpArgs false
set_option linter.unusedVariables false

set_option maxRecDepth 100000 in
set_option maxHeartbeats 8000000 in
theorem rrf_any (cs : List Value) (ae af : Option Addr) (ne ce nf cf : Nat) (fr : List Int) (w : World) (hl : cs.length = 5) (h0 : cs[0]? = some (.slice ae ne ce)) (h2 : cs[2]? = some (.slice af nf cf))
    (hne : ne ≤ 9223372036854775807) (hnf : fr.length = nf) (hfl : nf ≤ 9223372036854775807) (hS : Seg w af (fr.flatMap intE)) :
    Calls Tryd.prog 56 #[.agg cs.toArray] w fun e w' => e = .returned (relv (shN ne) (rfF (shN ne) fr (min nf (shN ne)))) ∧ Below w.heap.size w w' := by
  have ho := fun W => short_any ae ne ce W hne
  obtain ⟨a', c', e⟩ := knV_form ae ne ce
  rw [e] at ho
  clear e
  have hN64 := shN_le ne
  generalize shN ne = N at *
  obtain ⟨m, hm⟩ : ∃ m, min nf N = m := ⟨_, rfl⟩
  have hm1 : m ≤ nf := by omega
  have hm2 : m ≤ N := by omega
  rw [hm]
  have HS : Hid (Seg w af (fr.flatMap intE)) := hS
  have HF : Hid (fr.length = nf) := hnf
  have HM : Hid (min nf N = m) := hm
  have H2 : Hid (cs[2]? = some (.slice af nf cf)) := h2
  clear hS hnf hl hm h2
  have t1 : True := trivial
  go_enter Tryd.func56, Tryd.ntmps56
  go_wp2_with (first
    | (refine wpList_boxS rfl 51 _ rfl cs rfl ?_; intro W1 b1 F1 C1; have B1 := F_b F1; have hb1 : w.heap.size ≤ b1 := Nat.le_of_eq F1.at'.symm; clear F1)
    | (clear t1; refine wpList_allocR rfl rfl ?_; intro W2 b2 F2 r2; replace B1 := Below.then B1 (F_b F2); have hb2 : b1 < b2 := (by rw [F2.at']; exact C1.lt); replace C1 := C1.fresh F2; have y0 := (C1.cell 0).trans h0; clear F2)
    | (go_at_call 51; refine (ho _).mono ?_; rintro e w' ⟨rfl, hw'⟩; replace hw' := hw'.symm; subst hw')
    | (refine wpList_buildRN rfl _ rfl rfl ?_)
    | (refine wpList_allocR rfl rfl ?_; intro W4 b3 F4 r3; replace B1 := Below.then B1 (F_b F4); have hb3 : b2 < b3 := (by rw [F4.at']; exact r2.lt); replace r2 := r2.fresh F4; replace C1 := C1.fresh F4; clear F4 y0)
    | (refine wpList_storeR rfl _ _ rfl rfl rfl r3 ?_; intro W5 U5 q3; replace B1 := U5.trans B1 (by omega); replace r2 := r2.upd U5 (by omega); replace C1 := C1.upd U5 (by omega); clear U5 r3))
  clear ho h0
  go_loopw [5] (fun i wr => ∃ k : Nat, k ≤ m ∧ i = .int .i64 k ∧ IsR wr b3 N (rfF N fr k) ∧ IsR wr b2 0 void ∧ IsS wr b1 51 cs ∧ Hid (Below w.heap.size w wr)) (fun i _ => m - (intOf i).toNat)
  case atStart => exact ⟨0, by omega, rfl, q3.congr (fun i _ => (rfF_start N fr i).symm), r2, C1, B1⟩
  case round =>
    clear r2 q3 B1 C1
    obtain ⟨k, hk, rfl, q3, q2, C1, BB⟩ := hrel
    have y2 := (C1.cell 2).trans H2.out
    by_cases hlt : k < m
    · obtain ⟨x, hx⟩ : ∃ x, fr[k]? = some x := ⟨_, List.getElem?_eq_getElem (by rw [HF.out]; omega)⟩
      obtain ⟨ba, oa, ea, hba, ca0⟩ := seg_int HS.out hx
      have ca := (BB.out.cell (p := ⟨ba, oa + k, none⟩) hba).trans ca0
      have HX : Hid (fr[k]? = some x) := hx
      subst ea
      have hkN : (k : Int) < (N : Int) := by omega
      have hkf : (k : Int) < (nf : Int) := by omega
      have hk64 : (k : Int) < 64 := by omega
      have hk64n : k < 64 := by omega
      clear hx ca0
      by_cases hp : 0 ≤ x ∧ x < N
      · obtain ⟨X, rfl⟩ : ∃ X : Nat, x = (X : Int) := ⟨x.toNat, by omega⟩
        have hXN : X < N := by omega
        have hXNi : (X : Int) < (N : Int) := by omega
        have hX64 : (X : Int) < 64 := by omega
        have hrow := q3.row X (by omega)
        have hfz := q3.frozen (1 + X)
        have hxl := rfF_lt N fr k X (by omega)
        have hw := wrap_pow k hk64n
        have hor := or_pow (rfF N fr k X) k hxl hk64n
        have U := Upd.setCell wr b3 (1 + X) (.int .u64 ((rfF N fr k X ||| 2 ^ k : Nat) : Int))
        have HQ : Hid (IsR (wr.setCell ⟨b3, 1 + X, none⟩ (.int .u64 ((rfF N fr k X ||| 2 ^ k : Nat) : Int))) b3 N (rfF N fr (k + 1)) ∧ IsR (wr.setCell ⟨b3, 1 + X, none⟩ (.int .u64 ((rfF N fr k X ||| 2 ^ k : Nat) : Int))) b2 0 void ∧ IsS (wr.setCell ⟨b3, 1 + X, none⟩ (.int .u64 ((rfF N fr k X ||| 2 ^ k : Nat) : Int))) b1 51 cs ∧ Below w.heap.size w (wr.setCell ⟨b3, 1 + X, none⟩ (.int .u64 ((rfF N fr k X ||| 2 ^ k : Nat) : Int)))) :=
          ⟨(q3.set X _ (by omega)).congr (fun j _ => rfF_yes N fr k X j HX.out hXN), q2.upd U (by omega), C1.upd U (by omega), U.trans BB.out (by omega)⟩
        clear U q3 q2 BB C1 hp HX
        generalize rfF N fr k X ||| 2 ^ k = z at *
        generalize rfF N fr k X = z0 at *
        go_wp2
        go_region
        go_wp2
        go_roundw
        case rel => exact ⟨k + 1, by omega, by simp, HQ.out.1.drew, HQ.out.2.1.drew, HQ.out.2.2.1, HQ.out.2.2.2.drew⟩
        case measure => simp [intOf]; omega
      · have HQ : Hid (IsR wr b3 N (rfF N fr (k + 1)) ∧ IsR wr b2 0 void ∧ IsS wr b1 51 cs ∧ Below w.heap.size w wr) := ⟨q3.congr (fun j _ => rfF_no N fr k j x HX.out hp), q2, C1, BB.out⟩
        clear q3 q2 BB C1 HX
        rcases (show x < 0 ∨ (0 ≤ x ∧ ¬ x < (N : Int)) by omega) with hx0 | ⟨hx0, hx1⟩
        all_goals
          clear hp
          go_wp2
          go_roundw
          case rel => exact ⟨k + 1, by omega, by simp, HQ.out.1, HQ.out.2.1, HQ.out.2.2.1, HQ.out.2.2.2⟩
          case measure => simp [intOf]; omega
    · have hkm : k = m := by omega
      subst hkm
      rcases (show ¬ (k : Int) < (N : Int) ∨ ((k : Int) < (N : Int) ∧ ¬ (k : Int) < (nf : Int)) by have := HM.out; omega) with hx0 | ⟨hx0, hx1⟩
      all_goals
        go_wp2_with (first
          | (refine wpList_loadR rfl _ rfl rfl q3 ?_)
          | (refine wpList_storeR rfl _ _ rfl rfl rfl q2 ?_; intro W4 U4 r4))
        refine ret_R rfl rfl rfl r4 ⟨rfl, U4.trans BB.out (by omega)⟩
end Go.Proofs.YtdjlfpkemdiadaaDoor

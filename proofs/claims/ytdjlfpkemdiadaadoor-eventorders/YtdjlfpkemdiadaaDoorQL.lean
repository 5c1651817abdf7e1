/- Several texts in one: O3, O4. -/
import Derived.Test.YtdjlfpkemdiadaaDoorQP
import Derived.Test.YtdjlfpkemdiadaaDoorEK17
import Derived.Test.YtdjlfpkemdiadaaDoorQE
import Derived.ProofKit
import Derived.OpenShut
import Derived.LaidMore
import Derived.Lib.LaidTab
import Derived.Stop.Joined
import Derived.Stop.LaidErr
import Derived.SevenTiedAt
import Derived.SizedLaws
import Derived.Lib.RowBridge
import Derived.ChangeMaps5
import Derived.ChangeOld
import Derived.Test.YtdjlfpkemdiadaaDoorTie
import Derived.Test.YtdjlfpkemdiadaaDoorCards
import Derived.Test.YtdjlfpkemdiadaaDoorChecked
/- The law EventOrders. -/
namespace Go.Proofs.YtdjlfpkemdiadaaDoor
open Go Go.RowKit M
set_option linter.unusedSimpArgs false
set_option linter.unusedVariables false

theorem grow_tailO {id : Nat} {Q : Exit → Act → World → Prop} {a : Act} {W : World} {l : List Oper} (n : Nat) (hm : Tryd.prog.follows .mixedOrders = true) (hB : Region.lexTailB .any l.toArray n = true)
    (h : WG l.toArray W (fun a' => ∀ w', Below W.heap.size W w' → wpList Tryd.prog l.toArray Q (l.drop n) a' w') (l.take n) a) : (Code.region id l.toArray true).wp Tryd.prog Q a W := grow_tail n hm hB h.out
/-- How often the read x has been met among the first b writes. -/
def cntX (x : Int) (b : Nat) : Nat := if 0 ≤ x ∧ x < (b : Int) then 1 else 0
theorem cntX_zero (x : Int) : cntX x 0 = 0 := by unfold cntX; rw [if_neg (by omega)]
theorem cntX_hit (b : Nat) : cntX (b : Int) b = 0 ∧ cntX (b : Int) (b + 1) = 1 := by unfold cntX; rw [if_neg (by omega), if_pos (by omega)]; exact ⟨rfl, rfl⟩
theorem cntX_miss {x : Int} {b : Nat} (h : x ≠ (b : Int)) : cntX x (b + 1) = cntX x b := by
  unfold cntX
  by_cases h1 : 0 ≤ x ∧ x < (b : Int)
  · rw [if_pos h1, if_pos (by omega)]
  · rw [if_neg h1, if_neg (by omega)]
theorem cntX_all {x : Int} {n : Nat} (h : x < (n : Int)) : cntX x n = if 0 ≤ x then 1 else 0 := by
  unfold cntX
  by_cases h1 : 0 ≤ x
  · rw [if_pos ⟨h1, h⟩, if_pos h1]
  · rw [if_neg (by omega), if_neg h1]
def oneV (q : Bool) : Int := if q then 1 else 0
theorem bit_b2 {X k : Nat} {q : Bool} (h : X.testBit k = q) : ((b2 X k : Nat) : Int) = if q then 1 else 0 := by
  unfold b2; rw [h]; cases q <;> rfl
set_option maxRecDepth 100000 in
set_option maxHeartbeats 16000000 in
theorem eventOrders_any (cs : List Value) (ae af ao : Option Addr) (ce cf co : Nat) (l : List EV) (fr : List Int) (od : List (List Int)) (w : World) (hT : TabAt w) (hT10 : Tab10 w) (hX : XE w cs l.length fr od)
    (h0 : cs[0]? = some (.slice ae l.length ce)) (h2 : cs[2]? = some (.slice af fr.length cf)) (h3 : cs[3]? = some (.slice ao od.length co))
    (hE : Seg w ae (l.flatMap evL)) (hF : Seg w af (fr.flatMap intE)) (hO : RowsV w (.slice ao od.length co) intE od) :
    Calls Tryd.prog 4 #[.agg cs.toArray] w fun e w' => e = .returned (.bool true) ∧ Below w.heap.size w w' := by
  have HL : Hid (cs.length = 5) := hX.len
  have HT : Hid (TabAt w) := hT
  have HT10 : Hid (Tab10 w) := hT10
  have HXE : Hid (XE w cs l.length fr od) := hX
  have HWH : Hid (∀ W, Below w.heap.size w W → Calls Tryd.prog 14 #[.agg cs.toArray] W fun e w' => WhA l fr od W e w') := fun W hB =>
    whole_any cs ae af ao ce cf co l fr od W hX.len h0 h2 h3 hX.b0 hX.b1 hX.b2 hX.b3 (hE.below hB) (hF.below hB) (hO.below hB)
  have HE : Hid (Seg w ae (l.flatMap evL)) := hE
  have HF : Hid (Seg w af (fr.flatMap intE)) := hF
  have H0 : Hid (cs[0]? = some (.slice ae l.length ce)) := h0
  have H2 : Hid (cs[2]? = some (.slice af fr.length cf)) := h2
  clear hE hF hO hX hT hT10 h0 h2 h3
  have t1 : True := trivial
  have t2 : True := trivial
  have t3 : True := trivial
  have t4 : True := trivial
  go_enter Tryd.func4, Tryd.ntmps4
  go_wp2_with (first
    | (clear t1; refine wpList_boxS rfl 51 _ rfl cs rfl ?_; intro W1 bx F1 C1; have B1 := F_b F1; clear F1)
    | (clear t2; go_at_call 6; refine (awake_any _ (HT.out.below B1) (HT10.out.below B1)).mono ?_; rintro e W2 ⟨rfl, B2x⟩; have C2 := C1.grown B2x; have B2 := Below.then B1 B2x; clear C1 B1 B2x)
    | (clear t3; refine wpList_loadW rfl 51 _ rfl rfl C2 _ Tryd.underlying51 rfl (by rw [HL.out]; exact infoEx) ?_)
    | (clear t4; go_at_call 14; refine (HWH.out _ B2).mono ?_; rintro e W3 ⟨(_ | _), rfl, hWh, B3x⟩; all_goals have C3 := C2.grown B3x; all_goals have B3 := Below.then B2 B3x; all_goals clear C2 B2 B3x))
  · go_ret
    exact ⟨rfl, B3⟩
  have HW : Hid (Whole l fr od) := hWh (by simp)
  clear hWh HWH
  have hs : shN l.length = l.length := if_pos HW.out.n64
  have hn64' := HW.out.n64
  have hfr' := HW.out.frn
  have cR : Hid (∀ W, Below w.heap.size w W → Calls Tryd.prog 15 #[.agg cs.toArray] W fun e w' => e = .returned (relv (l.length : Nat) (rfX l.length fr)) ∧ Below W.heap.size W w') := fun W hB => by have := rf_x (HXE.out.below hB); rw [hs] at this; exact this
  have cC : Hid (∀ W, Below w.heap.size w W → Calls Tryd.prog 16 #[.agg cs.toArray] W fun e w' => e = .returned (relv (l.length : Nat) (coX l.length od)) ∧ Below W.heap.size W w') := fun W hB => by have := co_x (HXE.out.below hB); rw [hs] at this; exact this
  have cF : Hid (∀ W, Below w.heap.size w W → Calls Tryd.prog 17 #[.agg cs.toArray] W fun e w' => e = .returned (relv (l.length : Nat) (frF (shN l.length) (rfX l.length fr) (coX l.length od))) ∧ Below W.heap.size W w') := fun W hB => by have := fr_x (HT.out.below hB) (HXE.out.below hB); rw [hs] at this ⊢; exact this
  have HR : Hid (∀ a b, a < l.length → b < l.length → (rfX l.length fr b).testBit a = decide (fr.getD a 0 = (b : Int))) := fun a b ha hb => rf_bit HW.out ha hb
  have HC1 : Hid (∀ a b, wwB l a b = false → (coX l.length od a).testBit b = false) := fun a b h => co_not HW.out h
  have HC2 : Hid (∀ a b, a < l.length → b < l.length → wwB l a b = true → (coX l.length od b).testBit a = !(coX l.length od a).testBit b) := fun a b ha hb h => co_one HW.out ha hb h
  have HZ : Hid (∀ a b, a < l.length → b < l.length → (frF (shN l.length) (rfX l.length fr) (coX l.length od) a).testBit b = (rdB (evA l a) && (coX l.length od (max 0 (fr.getD a 0)).toNat).testBit b)) := fun a b ha hb => fr_bit HW.out ha hb
  have HRL : Hid (∀ a, rfX l.length fr a < 18446744073709551616) := fun a => (right_rfX l.length fr).wf a
  have HCL : Hid (∀ a, coX l.length od a < 18446744073709551616) := fun a => (right_coX l.length od).wf a
  have HZL : Hid (∀ a, frF (shN l.length) (rfX l.length fr) (coX l.length od) a < 18446744073709551616) := fun a => prF_lt _ (shN_le _) _ a
  have HFO : Hid (∀ a, a < l.length → rdB (evA l a) = decide (0 ≤ fr.getD a 0) ∧ fr.getD a 0 < (l.length : Int)) := fun a ha => ⟨(HW.out.fro a ha).1, (HW.out.fro a ha).2.1⟩
  generalize frF (shN l.length) (rfX l.length fr) (coX l.length od) = ZF at *
  generalize rfX l.length fr = RF at *
  generalize coX l.length od = CF at *
  obtain ⟨n, hn⟩ : ∃ n, l.length = n := ⟨_, rfl⟩
  rw [hfr', hn] at H2
  rw [hn] at cR cC cF HR HC2 HZ HFO H0 hn64' hfr'
  have HN : Hid (l.length = n) := hn
  have HFL : Hid (fr.length = n) := hfr'
  clear hn hs HW HXE hfr'
  have HB3 : Hid (Below w.heap.size w W3) := B3
  have HC3 : Hid (IsS W3 bx 51 cs) := C3
  clear B3 C3
  refine region_invA 9 (fun a0 listed a' w' => ∃ x18 x19 x20 x21 x22 x23 x3 x4 x5 : Value, a' = (((((((((a0.put (some 18) x18).put (some 19) x19).put (some 20) x20).put (some 21) x21).put (some 22) x22).put (some 23) x23).put (some 3) x3).put (some 4) x4).put (some 5) x5) ∧ Hid (Below W3.heap.size W3 w') ∧ (listed.getD 6 false = true → listed.getD 7 false = true → x3 ≠ x4) ∧ (listed.getD 6 false = true → listed.getD 8 false = true → x3 ≠ x5) ∧ (listed.getD 7 false = true → listed.getD 8 false = true → x4 ≠ x5) ∧ (listed.getD 0 false = true → x18 = (.agg cs.toArray)) ∧ (listed.getD 1 false = true → x19 = (relv (n : Nat) RF)) ∧ (listed.getD 2 false = true → x20 = (.agg cs.toArray)) ∧ (listed.getD 3 false = true → x21 = (relv (n : Nat) CF)) ∧ (listed.getD 4 false = true → x22 = (.agg cs.toArray)) ∧ (listed.getD 5 false = true → x23 = (relv (n : Nat) ZF)) ∧ (listed.getD 6 false = true → ∃ b9, x3 = .pointer (some ⟨b9, 0, none⟩) ∧ W3.heap.size ≤ b9 ∧ IsR w' b9 0 void) ∧ (listed.getD 7 false = true → ∃ b9, x4 = .pointer (some ⟨b9, 0, none⟩) ∧ W3.heap.size ≤ b9 ∧ IsR w' b9 0 void) ∧ (listed.getD 8 false = true → ∃ b9, x5 = .pointer (some ⟨b9, 0, none⟩) ∧ W3.heap.size ≤ b9 ∧ IsR w' b9 0 void)) (by kernel_rfl) (by kernel_rfl) ?i0 ?istep ?iend
  case i0 => exact ⟨_, _, _, _, _, _, _, _, _, by first | (simp only [Act.put, List.setIfInBounds_toArray, List.set_cons_succ, List.set_cons_zero]; done) | (simp only [Act.put, List.setIfInBounds_toArray, List.set_cons_succ, List.set_cons_zero]; rfl) | rfl, below_drew (Below.refl _ _), fun h => (not_rep h).elim, fun h => (not_rep h).elim, fun h => (not_rep h).elim, fun h => (not_rep h).elim, fun h => (not_rep h).elim, fun h => (not_rep h).elim, fun h => (not_rep h).elim, fun h => (not_rep h).elim, fun h => (not_rep h).elim, fun h => (not_rep h).elim, fun h => (not_rep h).elim, fun h => (not_rep h).elim⟩
  case istep =>
    as_aux_lemma =>
      rintro i listed a' w' hi hr ⟨x18, x19, x20, x21, x22, x23, x3, x4, x5, rfl, HBw, c6_7, c6_8, c7_8, d0, d1, d2, d3, d4, d5, d6, d7, d8⟩
      obtain ⟨hun, oj, hoj, hwt⟩ := mem_ready.1 hr
      simp only [Act.put, List.setIfInBounds_toArray, List.set_cons_succ, List.set_cons_zero]
      have hcase : i = 0 ∨ i = 1 ∨ i = 2 ∨ i = 3 ∨ i = 4 ∨ i = 5 ∨ i = 6 ∨ i = 7 ∨ i = 8 := by omega
      rcases hcase with rfl | rfl | rfl | rfl | rfl | rfl | rfl | rfl | rfl
      · have hoj2 := hoj
        obtain rfl := Option.some.inj hoj
        refine wpOp_value hoj2 rfl (v := (.agg cs.toArray)) (w' := w') (exec_loadSX rfl rfl (HC3.out.grown HBw.out) Tryd.underlying51 rfl (by rw [HL.out]; exact infoEx)) ?_
        exact ⟨(.agg cs.toArray), x19, x20, x21, x22, x23, x3, x4, x5, by first | (simp only [Act.put, List.setIfInBounds_toArray, List.set_cons_succ, List.set_cons_zero]; done) | (simp only [Act.put, List.setIfInBounds_toArray, List.set_cons_succ, List.set_cons_zero]; rfl) | rfl, Below.then HBw.out (Below.refl _ _), fun h h2 => c6_7 (keep (by decide) h) (keep (by decide) h2), fun h h2 => c6_8 (keep (by decide) h) (keep (by decide) h2), fun h h2 => c7_8 (keep (by decide) h) (keep (by decide) h2), fun _ => rfl, fun h => (d1 (keep (by decide) h)), fun h => (d2 (keep (by decide) h)), fun h => (d3 (keep (by decide) h)), fun h => (d4 (keep (by decide) h)), fun h => (d5 (keep (by decide) h)), fun h => (Exists.elim (d6 (keep (by decide) h)) fun b h => ⟨b, h.1, h.2.1, h.2.2.grown (Below.refl _ _)⟩), fun h => (Exists.elim (d7 (keep (by decide) h)) fun b h => ⟨b, h.1, h.2.1, h.2.2.grown (Below.refl _ _)⟩), fun h => (Exists.elim (d8 (keep (by decide) h)) fun b h => ⟨b, h.1, h.2.1, h.2.2.grown (Below.refl _ _)⟩)⟩
      · have hoj2 := hoj
        obtain rfl := Option.some.inj hoj
        have e0 := d0 (hwt ⟨0, .data⟩ (by simp) rfl)
        subst e0
        refine wpOp_call hoj2 rfl (f := 15) (args := #[(.agg cs.toArray)]) (by first | rfl | (go_simp; done) | (simp [go_sem]; done) | (simp [execOp, go_sem]; done)) ?_
        refine (cR.out w' (Below.then HB3.out HBw.out)).mono ?_
        rintro e w4 ⟨rfl, B4⟩
        refine ⟨_, rfl, ?_⟩
        exact ⟨(.agg cs.toArray), (relv (n : Nat) RF), x20, x21, x22, x23, x3, x4, x5, by first | (simp only [Act.put, List.setIfInBounds_toArray, List.set_cons_succ, List.set_cons_zero]; done) | (simp only [Act.put, List.setIfInBounds_toArray, List.set_cons_succ, List.set_cons_zero]; rfl) | rfl, Below.then HBw.out B4, fun h h2 => c6_7 (keep (by decide) h) (keep (by decide) h2), fun h h2 => c6_8 (keep (by decide) h) (keep (by decide) h2), fun h h2 => c7_8 (keep (by decide) h) (keep (by decide) h2), fun h => (d0 (keep (by decide) h)), fun _ => rfl, fun h => (d2 (keep (by decide) h)), fun h => (d3 (keep (by decide) h)), fun h => (d4 (keep (by decide) h)), fun h => (d5 (keep (by decide) h)), fun h => (Exists.elim (d6 (keep (by decide) h)) fun b h => ⟨b, h.1, h.2.1, h.2.2.grown B4⟩), fun h => (Exists.elim (d7 (keep (by decide) h)) fun b h => ⟨b, h.1, h.2.1, h.2.2.grown B4⟩), fun h => (Exists.elim (d8 (keep (by decide) h)) fun b h => ⟨b, h.1, h.2.1, h.2.2.grown B4⟩)⟩
      · have hoj2 := hoj
        obtain rfl := Option.some.inj hoj
        refine wpOp_value hoj2 rfl (v := (.agg cs.toArray)) (w' := w') (exec_loadSX rfl rfl (HC3.out.grown HBw.out) Tryd.underlying51 rfl (by rw [HL.out]; exact infoEx)) ?_
        exact ⟨x18, x19, (.agg cs.toArray), x21, x22, x23, x3, x4, x5, by first | (simp only [Act.put, List.setIfInBounds_toArray, List.set_cons_succ, List.set_cons_zero]; done) | (simp only [Act.put, List.setIfInBounds_toArray, List.set_cons_succ, List.set_cons_zero]; rfl) | rfl, Below.then HBw.out (Below.refl _ _), fun h h2 => c6_7 (keep (by decide) h) (keep (by decide) h2), fun h h2 => c6_8 (keep (by decide) h) (keep (by decide) h2), fun h h2 => c7_8 (keep (by decide) h) (keep (by decide) h2), fun h => (d0 (keep (by decide) h)), fun h => (d1 (keep (by decide) h)), fun _ => rfl, fun h => (d3 (keep (by decide) h)), fun h => (d4 (keep (by decide) h)), fun h => (d5 (keep (by decide) h)), fun h => (Exists.elim (d6 (keep (by decide) h)) fun b h => ⟨b, h.1, h.2.1, h.2.2.grown (Below.refl _ _)⟩), fun h => (Exists.elim (d7 (keep (by decide) h)) fun b h => ⟨b, h.1, h.2.1, h.2.2.grown (Below.refl _ _)⟩), fun h => (Exists.elim (d8 (keep (by decide) h)) fun b h => ⟨b, h.1, h.2.1, h.2.2.grown (Below.refl _ _)⟩)⟩
      · have hoj2 := hoj
        obtain rfl := Option.some.inj hoj
        have e2 := d2 (hwt ⟨2, .data⟩ (by simp) rfl)
        have e1 := d1 (hwt ⟨1, .chain⟩ (by simp) rfl)
        subst e2
        refine wpOp_call hoj2 rfl (f := 16) (args := #[(.agg cs.toArray)]) (by first | rfl | (go_simp; done) | (simp [go_sem]; done) | (simp [execOp, go_sem]; done)) ?_
        refine (cC.out w' (Below.then HB3.out HBw.out)).mono ?_
        rintro e w4 ⟨rfl, B4⟩
        refine ⟨_, rfl, ?_⟩
        exact ⟨x18, x19, (.agg cs.toArray), (relv (n : Nat) CF), x22, x23, x3, x4, x5, by first | (simp only [Act.put, List.setIfInBounds_toArray, List.set_cons_succ, List.set_cons_zero]; done) | (simp only [Act.put, List.setIfInBounds_toArray, List.set_cons_succ, List.set_cons_zero]; rfl) | rfl, Below.then HBw.out B4, fun h h2 => c6_7 (keep (by decide) h) (keep (by decide) h2), fun h h2 => c6_8 (keep (by decide) h) (keep (by decide) h2), fun h h2 => c7_8 (keep (by decide) h) (keep (by decide) h2), fun h => (d0 (keep (by decide) h)), fun h => (d1 (keep (by decide) h)), fun h => (d2 (keep (by decide) h)), fun _ => rfl, fun h => (d4 (keep (by decide) h)), fun h => (d5 (keep (by decide) h)), fun h => (Exists.elim (d6 (keep (by decide) h)) fun b h => ⟨b, h.1, h.2.1, h.2.2.grown B4⟩), fun h => (Exists.elim (d7 (keep (by decide) h)) fun b h => ⟨b, h.1, h.2.1, h.2.2.grown B4⟩), fun h => (Exists.elim (d8 (keep (by decide) h)) fun b h => ⟨b, h.1, h.2.1, h.2.2.grown B4⟩)⟩
      · have hoj2 := hoj
        obtain rfl := Option.some.inj hoj
        refine wpOp_value hoj2 rfl (v := (.agg cs.toArray)) (w' := w') (exec_loadSX rfl rfl (HC3.out.grown HBw.out) Tryd.underlying51 rfl (by rw [HL.out]; exact infoEx)) ?_
        exact ⟨x18, x19, x20, x21, (.agg cs.toArray), x23, x3, x4, x5, by first | (simp only [Act.put, List.setIfInBounds_toArray, List.set_cons_succ, List.set_cons_zero]; done) | (simp only [Act.put, List.setIfInBounds_toArray, List.set_cons_succ, List.set_cons_zero]; rfl) | rfl, Below.then HBw.out (Below.refl _ _), fun h h2 => c6_7 (keep (by decide) h) (keep (by decide) h2), fun h h2 => c6_8 (keep (by decide) h) (keep (by decide) h2), fun h h2 => c7_8 (keep (by decide) h) (keep (by decide) h2), fun h => (d0 (keep (by decide) h)), fun h => (d1 (keep (by decide) h)), fun h => (d2 (keep (by decide) h)), fun h => (d3 (keep (by decide) h)), fun _ => rfl, fun h => (d5 (keep (by decide) h)), fun h => (Exists.elim (d6 (keep (by decide) h)) fun b h => ⟨b, h.1, h.2.1, h.2.2.grown (Below.refl _ _)⟩), fun h => (Exists.elim (d7 (keep (by decide) h)) fun b h => ⟨b, h.1, h.2.1, h.2.2.grown (Below.refl _ _)⟩), fun h => (Exists.elim (d8 (keep (by decide) h)) fun b h => ⟨b, h.1, h.2.1, h.2.2.grown (Below.refl _ _)⟩)⟩
      · have hoj2 := hoj
        obtain rfl := Option.some.inj hoj
        have e4 := d4 (hwt ⟨4, .data⟩ (by simp) rfl)
        have e3 := d3 (hwt ⟨3, .chain⟩ (by simp) rfl)
        subst e4
        refine wpOp_call hoj2 rfl (f := 17) (args := #[(.agg cs.toArray)]) (by first | rfl | (go_simp; done) | (simp [go_sem]; done) | (simp [execOp, go_sem]; done)) ?_
        refine (cF.out w' (Below.then HB3.out HBw.out)).mono ?_
        rintro e w4 ⟨rfl, B4⟩
        refine ⟨_, rfl, ?_⟩
        exact ⟨x18, x19, x20, x21, (.agg cs.toArray), (relv (n : Nat) ZF), x3, x4, x5, by first | (simp only [Act.put, List.setIfInBounds_toArray, List.set_cons_succ, List.set_cons_zero]; done) | (simp only [Act.put, List.setIfInBounds_toArray, List.set_cons_succ, List.set_cons_zero]; rfl) | rfl, Below.then HBw.out B4, fun h h2 => c6_7 (keep (by decide) h) (keep (by decide) h2), fun h h2 => c6_8 (keep (by decide) h) (keep (by decide) h2), fun h h2 => c7_8 (keep (by decide) h) (keep (by decide) h2), fun h => (d0 (keep (by decide) h)), fun h => (d1 (keep (by decide) h)), fun h => (d2 (keep (by decide) h)), fun h => (d3 (keep (by decide) h)), fun h => (d4 (keep (by decide) h)), fun _ => rfl, fun h => (Exists.elim (d6 (keep (by decide) h)) fun b h => ⟨b, h.1, h.2.1, h.2.2.grown B4⟩), fun h => (Exists.elim (d7 (keep (by decide) h)) fun b h => ⟨b, h.1, h.2.1, h.2.2.grown B4⟩), fun h => (Exists.elim (d8 (keep (by decide) h)) fun b h => ⟨b, h.1, h.2.1, h.2.2.grown B4⟩)⟩
      · have hoj2 := hoj
        obtain rfl := Option.some.inj hoj
        refine wpOp_value hoj2 rfl (exec_allocR rfl) ?_
        have B9 := F_b (Fresh.alloc w' (.cells (cellsR 0 void) 43))
        exact ⟨x18, x19, x20, x21, x22, x23, _, x4, x5, by first | (simp only [Act.put, List.setIfInBounds_toArray, List.set_cons_succ, List.set_cons_zero]; done) | (simp only [Act.put, List.setIfInBounds_toArray, List.set_cons_succ, List.set_cons_zero]; rfl) | rfl, Below.then HBw.out B9, fun _ h => by obtain ⟨b, e, _, hr⟩ := d7 (keep (by decide) h); have hlt := hr.lt; subst e; intro hh; simp at hh <;> omega, fun _ h => by obtain ⟨b, e, _, hr⟩ := d8 (keep (by decide) h); have hlt := hr.lt; subst e; intro hh; simp at hh <;> omega, fun h h2 => c7_8 (keep (by decide) h) (keep (by decide) h2), fun h => (d0 (keep (by decide) h)), fun h => (d1 (keep (by decide) h)), fun h => (d2 (keep (by decide) h)), fun h => (d3 (keep (by decide) h)), fun h => (d4 (keep (by decide) h)), fun h => (d5 (keep (by decide) h)), fun _ => ⟨_, rfl, HBw.out.size, IsR.new w' 0 void⟩, fun h => (Exists.elim (d7 (keep (by decide) h)) fun b h => ⟨b, h.1, h.2.1, h.2.2.grown B9⟩), fun h => (Exists.elim (d8 (keep (by decide) h)) fun b h => ⟨b, h.1, h.2.1, h.2.2.grown B9⟩)⟩
      · have hoj2 := hoj
        obtain rfl := Option.some.inj hoj
        refine wpOp_value hoj2 rfl (exec_allocR rfl) ?_
        have B9 := F_b (Fresh.alloc w' (.cells (cellsR 0 void) 43))
        exact ⟨x18, x19, x20, x21, x22, x23, x3, _, x5, by first | (simp only [Act.put, List.setIfInBounds_toArray, List.set_cons_succ, List.set_cons_zero]; done) | (simp only [Act.put, List.setIfInBounds_toArray, List.set_cons_succ, List.set_cons_zero]; rfl) | rfl, Below.then HBw.out B9, fun h _ => by obtain ⟨b, e, _, hr⟩ := d6 (keep (by decide) h); have hlt := hr.lt; subst e; intro hh; simp at hh <;> omega, fun h h2 => c6_8 (keep (by decide) h) (keep (by decide) h2), fun _ h => by obtain ⟨b, e, _, hr⟩ := d8 (keep (by decide) h); have hlt := hr.lt; subst e; intro hh; simp at hh <;> omega, fun h => (d0 (keep (by decide) h)), fun h => (d1 (keep (by decide) h)), fun h => (d2 (keep (by decide) h)), fun h => (d3 (keep (by decide) h)), fun h => (d4 (keep (by decide) h)), fun h => (d5 (keep (by decide) h)), fun h => (Exists.elim (d6 (keep (by decide) h)) fun b h => ⟨b, h.1, h.2.1, h.2.2.grown B9⟩), fun _ => ⟨_, rfl, HBw.out.size, IsR.new w' 0 void⟩, fun h => (Exists.elim (d8 (keep (by decide) h)) fun b h => ⟨b, h.1, h.2.1, h.2.2.grown B9⟩)⟩
      · have hoj2 := hoj
        obtain rfl := Option.some.inj hoj
        refine wpOp_value hoj2 rfl (exec_allocR rfl) ?_
        have B9 := F_b (Fresh.alloc w' (.cells (cellsR 0 void) 43))
        exact ⟨x18, x19, x20, x21, x22, x23, x3, x4, _, by first | (simp only [Act.put, List.setIfInBounds_toArray, List.set_cons_succ, List.set_cons_zero]; done) | (simp only [Act.put, List.setIfInBounds_toArray, List.set_cons_succ, List.set_cons_zero]; rfl) | rfl, Below.then HBw.out B9, fun h h2 => c6_7 (keep (by decide) h) (keep (by decide) h2), fun h _ => by obtain ⟨b, e, _, hr⟩ := d6 (keep (by decide) h); have hlt := hr.lt; subst e; intro hh; simp at hh <;> omega, fun h _ => by obtain ⟨b, e, _, hr⟩ := d7 (keep (by decide) h); have hlt := hr.lt; subst e; intro hh; simp at hh <;> omega, fun h => (d0 (keep (by decide) h)), fun h => (d1 (keep (by decide) h)), fun h => (d2 (keep (by decide) h)), fun h => (d3 (keep (by decide) h)), fun h => (d4 (keep (by decide) h)), fun h => (d5 (keep (by decide) h)), fun h => (Exists.elim (d6 (keep (by decide) h)) fun b h => ⟨b, h.1, h.2.1, h.2.2.grown B9⟩), fun h => (Exists.elim (d7 (keep (by decide) h)) fun b h => ⟨b, h.1, h.2.1, h.2.2.grown B9⟩), fun _ => ⟨_, rfl, HBw.out.size, IsR.new w' 0 void⟩⟩
  case iend =>
    as_aux_lemma =>
      rintro a' w' ⟨x18, x19, x20, x21, x22, x23, x3, x4, x5, rfl, HBw, c6_7, c6_8, c7_8, d0, d1, d2, d3, d4, d5, d6, d7, d8⟩
      replace d0 := d0 rfl
      replace d1 := d1 rfl
      replace d2 := d2 rfl
      replace d3 := d3 rfl
      replace d4 := d4 rfl
      replace d5 := d5 rfl
      replace d6 := d6 rfl
      replace d7 := d7 rfl
      replace d8 := d8 rfl
      replace c6_7 := c6_7 rfl rfl
      replace c6_8 := c6_8 rfl rfl
      replace c7_8 := c7_8 rfl rfl
      simp only [Act.put, List.setIfInBounds_toArray, List.set_cons_succ, List.set_cons_zero]
      simp only [List.drop_succ_cons, List.drop_zero]
      obtain ⟨p1, rfl, hp1, r1⟩ := d6
      obtain ⟨p2, rfl, hp2, r2⟩ := d7
      obtain ⟨p3, rfl, hp3, r3⟩ := d8
      have h12 : p1 ≠ p2 := fun e => c6_7 (by rw [e])
      have h13 : p1 ≠ p3 := fun e => c6_8 (by rw [e])
      have h23 : p2 ≠ p3 := fun e => c7_8 (by rw [e])
      subst d0 d1 d2 d3 d4 d5
      have C11 := HC3.out.grown HBw.out
      have hbx := HC3.out.lt
      have hsz := HB3.out.size
      have B11 := Below.then HB3.out HBw.out
      clear HBw HC3 cR cC cF c6_7 c6_8 c7_8
      have u11 : True := trivial
      have u12 : True := trivial
      have u13 : True := trivial
      go_wp2_with (first
        | (clear u11; refine wpList_storeR rfl _ _ rfl rfl rfl r1 ?_; intro W15 U15 k1; have Z15 := U15.trans B11 (by omega); have k2 := r2.upd U15 (fun e => h12 e.symm); have k3 := r3.upd U15 (fun e => h13 e.symm); have C15 := C11.upd U15 (by omega); clear U15 B11 r1 r2 r3 C11)
        | (clear u12; refine wpList_storeR rfl _ _ rfl rfl rfl k2 ?_; intro W16 U16 m2; have Z16 := U16.trans Z15 (by omega); have m1 := k1.upd U16 h12; have m3 := k3.upd U16 (fun e => h23 e.symm); have C16 := C15.upd U16 (by omega); clear U16 Z15 k1 k2 k3 C15)
        | (clear u13; refine wpList_storeR rfl _ _ rfl rfl rfl m3 ?_; intro W17 U17 n3x; have n1 : Hid (IsR W17 p1 (n : Int) RF) := m1.upd U17 h13; have n2 : Hid (IsR W17 p2 (n : Int) CF) := m2.upd U17 h23; have n3 : Hid (IsR W17 p3 (n : Int) ZF) := n3x; have n4 : Hid (IsS W17 bx 51 cs) := C16.upd U17 (by omega); have B17 : Hid (Below w.heap.size w W17) := U17.trans Z16 (by omega); have y0 := (n4.out.cell 0).trans H0.out; clear U17 Z16 m1 m2 m3 n3x C16))
      clear y0
      go_loopw [7] (fun i wr => ∃ a : Nat, a ≤ n ∧ i = .int .i64 (a : Int) ∧ Hid (Below W17.heap.size W17 wr)) (fun i _ => n - (intOf i).toNat)
      case atStart => exact ⟨0, Nat.zero_le _, rfl, Below.refl _ _⟩
      case round =>
        as_aux_lemma =>
          obtain ⟨a, ha, rfl, HB⟩ := hrel
          by_cases hlt : a < n
          · have hai : (a : Int) < (n : Int) := by omega
            have ha64i : (a : Int) < 64 := by omega
            have ha64 : a < 64 := by omega
            obtain ⟨WO, eWO⟩ : ∃ W, W = wr := ⟨_, rfl⟩
            subst eWO
            obtain ⟨x, hx⟩ : ∃ x, fr[a]? = some x := ⟨_, List.getElem?_eq_getElem (by rw [HFL.out]; exact hlt)⟩
            have HD : fr.getD a 0 = x := by rw [List.getD_eq_getElem?_getD, hx]; rfl
            obtain ⟨hrx, hxn⟩ := HFO.out a hlt
            rw [HD] at hrx hxn
            obtain ⟨bf, of, rfl, hbf, cf0⟩ := seg_int HF.out hx
            have HCX : Hid (bf < w.heap.size ∧ w.cell? ⟨bf, of + a, none⟩ = some (.int .i64 x)) := ⟨hbf, cf0⟩
            have hea := evA_at (l := l) (i := a) (by rw [HN.out]; exact hlt)
            obtain ⟨be, oe, rfl, hbe0, ra0⟩ := seg_ev HE.out hea
            have HRA : Hid (w.rangeAt be (oe + a * 5) (evL (evA l a))) := ra0
            have HHR : Hid (∀ b, b < n → (RF b).testBit a = decide (x = (b : Int))) := fun b hb => by rw [HR.out a b hlt hb, HD]
            have HHZ : Hid (∀ b, b < n → (ZF a).testBit b = (rdB (evA l a) && (CF (max 0 x).toNat).testBit b)) := fun b hb => by rw [HZ.out a b hlt hb, HD]
            have HRX : Hid (rdB (evA l a) = decide (0 ≤ x)) := hrx
            clear hx hrx hbf cf0 hea ra0 HD
            go_wp2
            go_loopw [8, 9] (fun c i wr => ∃ b : Nat, b ≤ n ∧ i = .int .i64 (b : Int) ∧ c = .int .i64 ((cntX x b : Nat) : Int) ∧ Hid (Below WO.heap.size WO wr)) (fun _ i _ => n - (intOf i).toNat)
            case atStart => exact ⟨0, Nat.zero_le _, rfl, by rw [cntX_zero]; rfl, Below.refl _ _⟩
            case round =>
              as_aux_lemma =>
                obtain ⟨b, hb, rfl, rfl, HBb⟩ := hrel
                have BB : Hid (Below W17.heap.size W17 wr) := Below.then HB.out HBb.out
                have BW : Hid (Below w.heap.size w wr) := Below.then B17.out BB.out
                by_cases hlt2 : b < n
                · have hbi : (b : Int) < (n : Int) := by omega
                  have hb64i : (b : Int) < 64 := by omega
                  have hb64 : b < 64 := by omega
                  have cx := (BW.out.cell (p := ⟨bf, of + a, none⟩) HCX.out.1).trans HCX.out.2
                  have y2 := ((n4.out.grown BB.out).cell 2).trans H2.out
                  have hcb : cntX x b ≤ 1 := by unfold cntX; split <;> omega
                  have hbf64 : (n : Int) ≤ 64 := by omega
                  go_upto_region 14 with fail
                  try simp only [Act.put]
                  go_cut [45] from 32 to 151 (fun v wx => v = .bool (decide (x = (b : Int))) ∧ Hid (Below wr.heap.size wr wx))
                  case first =>
                    as_aux_lemma =>
                      have c1 : wr.cell? ⟨p1, 1 + b, none⟩ = some (.int .u64 ((RF b : Nat) : Int)) := (n1.out.grown BB.out).row b hb64
                      have hX1 := HRL.out b
                      have ht1 := HHR.out b hlt2
                      generalize RF b = X1 at c1 hX1 ht1
                      by_cases hxb : x = (b : Int)
                      · have v1 : ((b2 X1 a : Nat) : Int) = 1 := by rw [bit_b2 ht1]; simp [hxb]
                        refine grow_region ?_
                        refine WG.put rfl (v := .int .i64 (b : Int)) (fun w => by first | rfl | (go_simp; done) | (simp [go_sem]; done) | (simp [execOp, go_sem]; done)) ?_
                        simp only [Act.put, List.setIfInBounds_toArray, List.set_cons_succ, List.set_cons_zero]
                        refine WG.put rfl (v := .pointer (some ⟨p1, 1, none⟩)) (fun w => by first | rfl | (go_simp; done) | (simp [go_sem]; done) | (simp [execOp, go_sem]; done)) ?_
                        simp only [Act.put, List.setIfInBounds_toArray, List.set_cons_succ, List.set_cons_zero]
                        refine WG.put rfl (v := .pointer (some ⟨p1, 1 + b, none⟩)) (fun w => by first | rfl | (go_simp; done) | (simp [go_sem, hb64i]; done) | (simp [execOp, go_sem, hb64i]; done)) ?_
                        simp only [Act.put, List.setIfInBounds_toArray, List.set_cons_succ, List.set_cons_zero]
                        refine WG.cell rfl 29 _ rfl rfl c1 (fun w h => by simp [go_sem, h]) ?_
                        simp only [Act.put, List.setIfInBounds_toArray, List.set_cons_succ, List.set_cons_zero]
                        refine WG.put rfl (v := .int .i64 (a : Int)) (fun w => by first | rfl | (go_simp; done) | (simp [go_sem]; done) | (simp [execOp, go_sem]; done)) ?_
                        simp only [Act.put, List.setIfInBounds_toArray, List.set_cons_succ, List.set_cons_zero]
                        refine WG.put rfl (fun w => exec_cvt rfl rfl (by omega)) ?_
                        simp only [Act.put, List.setIfInBounds_toArray, List.set_cons_succ, List.set_cons_zero]
                        refine WG.put rfl (fun w => exec_shr (X := X1) rfl rfl rfl hX1 ha64) ?_
                        simp only [Act.put, List.setIfInBounds_toArray, List.set_cons_succ, List.set_cons_zero]
                        refine WG.put rfl (v := .int .u64 1) (fun w => (exec_bit (X := X1) rfl rfl hX1).trans (by rw [v1])) ?_
                        simp only [Act.put, List.setIfInBounds_toArray, List.set_cons_succ, List.set_cons_zero]
                        refine WG.put rfl (v := .bool true) (fun w => by first | rfl | (go_simp; done) | (simp [go_sem]; done) | (simp [execOp, go_sem]; done)) ?_
                        simp only [Act.put, List.setIfInBounds_toArray, List.set_cons_succ, List.set_cons_zero]
                        refine WG.nil ?_
                        intro w1 B1
                        go_wp2
                        go_meet
                        exact ⟨by rw [decide_eq_true hxb], B1⟩
                      · have v1 : ((b2 X1 a : Nat) : Int) = 0 := by rw [bit_b2 ht1]; simp [hxb]
                        refine grow_region ?_
                        refine WG.put rfl (v := .int .i64 (b : Int)) (fun w => by first | rfl | (go_simp; done) | (simp [go_sem]; done) | (simp [execOp, go_sem]; done)) ?_
                        simp only [Act.put, List.setIfInBounds_toArray, List.set_cons_succ, List.set_cons_zero]
                        refine WG.put rfl (v := .pointer (some ⟨p1, 1, none⟩)) (fun w => by first | rfl | (go_simp; done) | (simp [go_sem]; done) | (simp [execOp, go_sem]; done)) ?_
                        simp only [Act.put, List.setIfInBounds_toArray, List.set_cons_succ, List.set_cons_zero]
                        refine WG.put rfl (v := .pointer (some ⟨p1, 1 + b, none⟩)) (fun w => by first | rfl | (go_simp; done) | (simp [go_sem, hb64i]; done) | (simp [execOp, go_sem, hb64i]; done)) ?_
                        simp only [Act.put, List.setIfInBounds_toArray, List.set_cons_succ, List.set_cons_zero]
                        refine WG.cell rfl 29 _ rfl rfl c1 (fun w h => by simp [go_sem, h]) ?_
                        simp only [Act.put, List.setIfInBounds_toArray, List.set_cons_succ, List.set_cons_zero]
                        refine WG.put rfl (v := .int .i64 (a : Int)) (fun w => by first | rfl | (go_simp; done) | (simp [go_sem]; done) | (simp [execOp, go_sem]; done)) ?_
                        simp only [Act.put, List.setIfInBounds_toArray, List.set_cons_succ, List.set_cons_zero]
                        refine WG.put rfl (fun w => exec_cvt rfl rfl (by omega)) ?_
                        simp only [Act.put, List.setIfInBounds_toArray, List.set_cons_succ, List.set_cons_zero]
                        refine WG.put rfl (fun w => exec_shr (X := X1) rfl rfl rfl hX1 ha64) ?_
                        simp only [Act.put, List.setIfInBounds_toArray, List.set_cons_succ, List.set_cons_zero]
                        refine WG.put rfl (v := .int .u64 0) (fun w => (exec_bit (X := X1) rfl rfl hX1).trans (by rw [v1])) ?_
                        simp only [Act.put, List.setIfInBounds_toArray, List.set_cons_succ, List.set_cons_zero]
                        refine WG.put rfl (v := .bool false) (fun w => by first | rfl | (go_simp; done) | (simp [go_sem]; done) | (simp [execOp, go_sem]; done)) ?_
                        simp only [Act.put, List.setIfInBounds_toArray, List.set_cons_succ, List.set_cons_zero]
                        refine WG.nil ?_
                        intro w1 B1
                        go_wp2
                        go_meet
                        exact ⟨by rw [decide_eq_false hxb], B1⟩
                  case rest =>
                    obtain ⟨rfl, B1⟩ := hcut
                    replace cx := cell_grow cx B1.out
                    replace y2 := cell_grow y2 B1.out
                    go_upto_if 45 with fail
                    go_cut [8] from 32 to 151 (fun v wx => v = .int .i64 ((cntX x (b + 1) : Nat) : Int) ∧ Hid (Below wr.heap.size wr wx))
                    case first =>
                      as_aux_lemma =>
                        by_cases hxb : x = (b : Int)
                        · obtain ⟨hc0, hc1⟩ := cntX_hit b
                          subst hxb
                          rw [hc0]
                          rw [show decide ((b : Int) = (b : Int)) = true from decide_eq_true rfl]
                          go_wp2
                          go_meet
                          exact ⟨by rw [hc1]; rfl, B1.out⟩
                        · rw [decide_eq_false hxb]
                          go_wp2
                          go_meet
                          exact ⟨by rw [cntX_miss hxb], B1.out⟩
                    case rest =>
                      clear B1 cx y2
                      obtain ⟨rfl, B1⟩ := hcut
                      have BBa := Below.then BB.out B1.out
                      have BWa := Below.then BW.out B1.out
                      have y0 := ((n4.out.grown BBa).cell 0).trans H0.out
                      have HHa : Hid (Below wr.heap.size wr _) := B1.out
                      go_upto_region 18 with fail
                      try simp only [Act.put]
                      go_cut [10] from 32 to 151 (fun v wx => v = .bool (wwB l a b) ∧ Hid (Below wr.heap.size wr wx))
                      case first =>
                        as_aux_lemma =>
                          have hbe := Nat.lt_of_lt_of_le hbe0 BWa.size
                          have heb := evA_at (l := l) (i := b) (by rw [HN.out]; exact hlt2)
                          obtain ⟨_, _, e2, _, rb0⟩ := seg_ev HE.out heb
                          cases e2
                          have ra := fun j v hv => (BWa.cell (p := ⟨be, oe + a * 5 + j, none⟩) hbe0).trans (HRA.out j v hv)
                          have rb := fun j v hv => (BWa.cell (p := ⟨be, oe + b * 5 + j, none⟩) hbe0).trans (rb0 j v hv)
                          have la := ra 3 _ rfl
                          have lb := rb 3 _ rfl
                          have hwa := fun W => write_any (evA l a) W
                          have hwb := fun W => write_any (evA l b) W
                          have HV : Hid (wwB l a b = (wrB (evA l a) && wrB (evA l b) && decide ((evA l a).loc = (evA l b).loc) && decide (a ≠ b))) := rfl
                          clear heb rb0 B1
                          cases hqa : wrB (evA l a) with
                          | false =>
                            simp only [hqa] at hwa
                            refine grow_allW (by kernel_rfl) (by kernel_rfl) ?_
                            refine WG.put rfl (v := .pointer (some ⟨bx, 0, none⟩)) (fun w => by first | rfl | (go_simp; done) | (simp [go_sem]; done) | (simp [execOp, go_sem]; done)) ?_
                            simp only [Act.put, List.setIfInBounds_toArray, List.set_cons_succ, List.set_cons_zero]
                            refine WG.cell rfl 37 _ rfl rfl y0 (fun w h => by simp [go_sem, h]) ?_
                            simp only [Act.put, List.setIfInBounds_toArray, List.set_cons_succ, List.set_cons_zero]
                            refine WG.put rfl (v := .int .i64 (a : Int)) (fun w => by first | rfl | (go_simp; done) | (simp [go_sem]; done) | (simp [execOp, go_sem]; done)) ?_
                            simp only [Act.put, List.setIfInBounds_toArray, List.set_cons_succ, List.set_cons_zero]
                            refine WG.put rfl (v := .pointer (some ⟨be, oe + a * 5, none⟩)) (fun w => by first | rfl | (go_simp; done) | (simp [go_sem, hai]; done) | (simp [execOp, go_sem, hai]; done)) ?_
                            simp only [Act.put, List.setIfInBounds_toArray, List.set_cons_succ, List.set_cons_zero]
                            refine WG.range rfl 46 _ rfl rfl (evL (evA l a)) hbe ra _ Tryd.underlying46 rfl infoEv ?_
                            simp only [Act.put, List.setIfInBounds_toArray, List.set_cons_succ, List.set_cons_zero]
                            refine WG.call rfl (v := .bool false) (fun w' _ => hwa w') (fun w => by first | rfl | (go_simp; done) | (simp [go_sem]; done) | (simp [execOp, go_sem]; done)) ?_
                            simp only [Act.put, List.setIfInBounds_toArray, List.set_cons_succ, List.set_cons_zero]
                            refine WG.put rfl (v := .bool false) (fun w => by first | rfl | (go_simp; done) | (simp [go_sem]; done) | (simp [execOp, go_sem]; done)) ?_
                            simp only [Act.put, List.setIfInBounds_toArray, List.set_cons_succ, List.set_cons_zero]
                            refine WG.skip rfl ?_
                            simp only [Act.put, List.setIfInBounds_toArray, List.set_cons_succ, List.set_cons_zero]
                            refine WG.skip rfl ?_
                            simp only [Act.put, List.setIfInBounds_toArray, List.set_cons_succ, List.set_cons_zero]
                            refine WG.skip rfl ?_
                            simp only [Act.put, List.setIfInBounds_toArray, List.set_cons_succ, List.set_cons_zero]
                            refine WG.skip rfl ?_
                            simp only [Act.put, List.setIfInBounds_toArray, List.set_cons_succ, List.set_cons_zero]
                            refine WG.skip rfl ?_
                            simp only [Act.put, List.setIfInBounds_toArray, List.set_cons_succ, List.set_cons_zero]
                            refine WG.skip rfl ?_
                            simp only [Act.put, List.setIfInBounds_toArray, List.set_cons_succ, List.set_cons_zero]
                            refine WG.put rfl (v := .bool false) (fun w => by first | rfl | (go_simp; done) | (simp [go_sem]; done) | (simp [execOp, go_sem]; done)) ?_
                            simp only [Act.put, List.setIfInBounds_toArray, List.set_cons_succ, List.set_cons_zero]
                            refine WG.put rfl (v := .bool false) (fun w => by first | rfl | (go_simp; done) | (simp [go_sem]; done) | (simp [execOp, go_sem]; done)) ?_
                            simp only [Act.put, List.setIfInBounds_toArray, List.set_cons_succ, List.set_cons_zero]
                            refine WG.skip rfl ?_
                            simp only [Act.put, List.setIfInBounds_toArray, List.set_cons_succ, List.set_cons_zero]
                            refine WG.skip rfl ?_
                            simp only [Act.put, List.setIfInBounds_toArray, List.set_cons_succ, List.set_cons_zero]
                            refine WG.skip rfl ?_
                            simp only [Act.put, List.setIfInBounds_toArray, List.set_cons_succ, List.set_cons_zero]
                            refine WG.skip rfl ?_
                            simp only [Act.put, List.setIfInBounds_toArray, List.set_cons_succ, List.set_cons_zero]
                            refine WG.skip rfl ?_
                            simp only [Act.put, List.setIfInBounds_toArray, List.set_cons_succ, List.set_cons_zero]
                            refine WG.skip rfl ?_
                            simp only [Act.put, List.setIfInBounds_toArray, List.set_cons_succ, List.set_cons_zero]
                            refine WG.skip rfl ?_
                            simp only [Act.put, List.setIfInBounds_toArray, List.set_cons_succ, List.set_cons_zero]
                            refine WG.skip rfl ?_
                            simp only [Act.put, List.setIfInBounds_toArray, List.set_cons_succ, List.set_cons_zero]
                            refine WG.skip rfl ?_
                            simp only [Act.put, List.setIfInBounds_toArray, List.set_cons_succ, List.set_cons_zero]
                            refine WG.skip rfl ?_
                            simp only [Act.put, List.setIfInBounds_toArray, List.set_cons_succ, List.set_cons_zero]
                            refine WG.skip rfl ?_
                            simp only [Act.put, List.setIfInBounds_toArray, List.set_cons_succ, List.set_cons_zero]
                            refine WG.skip rfl ?_
                            simp only [Act.put, List.setIfInBounds_toArray, List.set_cons_succ, List.set_cons_zero]
                            refine WG.skip rfl ?_
                            simp only [Act.put, List.setIfInBounds_toArray, List.set_cons_succ, List.set_cons_zero]
                            refine WG.put rfl (v := .bool false) (fun w => by first | rfl | (go_simp; done) | (simp [go_sem]; done) | (simp [execOp, go_sem]; done)) ?_
                            simp only [Act.put, List.setIfInBounds_toArray, List.set_cons_succ, List.set_cons_zero]
                            refine WG.put rfl (v := .bool false) (fun w => by first | rfl | (go_simp; done) | (simp [go_sem]; done) | (simp [execOp, go_sem]; done)) ?_
                            simp only [Act.put, List.setIfInBounds_toArray, List.set_cons_succ, List.set_cons_zero]
                            refine WG.skip rfl ?_
                            simp only [Act.put, List.setIfInBounds_toArray, List.set_cons_succ, List.set_cons_zero]
                            refine WG.skip rfl ?_
                            simp only [Act.put, List.setIfInBounds_toArray, List.set_cons_succ, List.set_cons_zero]
                            refine WG.skip rfl ?_
                            simp only [Act.put, List.setIfInBounds_toArray, List.set_cons_succ, List.set_cons_zero]
                            refine WG.put rfl (v := .bool false) (fun w => by first | rfl | (go_simp; done) | (simp [go_sem]; done) | (simp [execOp, go_sem]; done)) ?_
                            simp only [Act.put, List.setIfInBounds_toArray, List.set_cons_succ, List.set_cons_zero]
                            refine WG.put rfl (v := .bool false) (fun w => by first | rfl | (go_simp; done) | (simp [go_sem]; done) | (simp [execOp, go_sem]; done)) ?_
                            simp only [Act.put, List.setIfInBounds_toArray, List.set_cons_succ, List.set_cons_zero]
                            refine WG.nil ?_
                            intro w2 B2
                            go_wp2
                            go_meet
                            exact ⟨by rw [HV.out, hqa]; simp, Below.then HHa.out B2⟩
                          | true =>
                            simp only [hqa] at hwa
                            cases hqb : wrB (evA l b) with
                            | false =>
                              simp only [hqb] at hwb
                              refine grow_allW (by kernel_rfl) (by kernel_rfl) ?_
                              refine WG.put rfl (v := .pointer (some ⟨bx, 0, none⟩)) (fun w => by first | rfl | (go_simp; done) | (simp [go_sem]; done) | (simp [execOp, go_sem]; done)) ?_
                              simp only [Act.put, List.setIfInBounds_toArray, List.set_cons_succ, List.set_cons_zero]
                              refine WG.cell rfl 37 _ rfl rfl y0 (fun w h => by simp [go_sem, h]) ?_
                              simp only [Act.put, List.setIfInBounds_toArray, List.set_cons_succ, List.set_cons_zero]
                              refine WG.put rfl (v := .int .i64 (a : Int)) (fun w => by first | rfl | (go_simp; done) | (simp [go_sem]; done) | (simp [execOp, go_sem]; done)) ?_
                              simp only [Act.put, List.setIfInBounds_toArray, List.set_cons_succ, List.set_cons_zero]
                              refine WG.put rfl (v := .pointer (some ⟨be, oe + a * 5, none⟩)) (fun w => by first | rfl | (go_simp; done) | (simp [go_sem, hai]; done) | (simp [execOp, go_sem, hai]; done)) ?_
                              simp only [Act.put, List.setIfInBounds_toArray, List.set_cons_succ, List.set_cons_zero]
                              refine WG.range rfl 46 _ rfl rfl (evL (evA l a)) hbe ra _ Tryd.underlying46 rfl infoEv ?_
                              simp only [Act.put, List.setIfInBounds_toArray, List.set_cons_succ, List.set_cons_zero]
                              refine WG.call rfl (v := .bool true) (fun w' _ => hwa w') (fun w => by first | rfl | (go_simp; done) | (simp [go_sem]; done) | (simp [execOp, go_sem]; done)) ?_
                              simp only [Act.put, List.setIfInBounds_toArray, List.set_cons_succ, List.set_cons_zero]
                              refine WG.put rfl (v := .bool true) (fun w => by first | rfl | (go_simp; done) | (simp [go_sem]; done) | (simp [execOp, go_sem]; done)) ?_
                              simp only [Act.put, List.setIfInBounds_toArray, List.set_cons_succ, List.set_cons_zero]
                              refine WG.put rfl (v := .pointer (some ⟨bx, 0, none⟩)) (fun w => by first | rfl | (go_simp; done) | (simp [go_sem]; done) | (simp [execOp, go_sem]; done)) ?_
                              simp only [Act.put, List.setIfInBounds_toArray, List.set_cons_succ, List.set_cons_zero]
                              refine WG.cell rfl 37 _ rfl rfl y0 (fun w h => by simp [go_sem, h]) ?_
                              simp only [Act.put, List.setIfInBounds_toArray, List.set_cons_succ, List.set_cons_zero]
                              refine WG.put rfl (v := .int .i64 (b : Int)) (fun w => by first | rfl | (go_simp; done) | (simp [go_sem]; done) | (simp [execOp, go_sem]; done)) ?_
                              simp only [Act.put, List.setIfInBounds_toArray, List.set_cons_succ, List.set_cons_zero]
                              refine WG.put rfl (v := .pointer (some ⟨be, oe + b * 5, none⟩)) (fun w => by first | rfl | (go_simp; done) | (simp [go_sem, hbi]; done) | (simp [execOp, go_sem, hbi]; done)) ?_
                              simp only [Act.put, List.setIfInBounds_toArray, List.set_cons_succ, List.set_cons_zero]
                              refine WG.range rfl 46 _ rfl rfl (evL (evA l b)) hbe rb _ Tryd.underlying46 rfl infoEv ?_
                              simp only [Act.put, List.setIfInBounds_toArray, List.set_cons_succ, List.set_cons_zero]
                              refine WG.call rfl (v := .bool false) (fun w' _ => hwb w') (fun w => by first | rfl | (go_simp; done) | (simp [go_sem]; done) | (simp [execOp, go_sem]; done)) ?_
                              simp only [Act.put, List.setIfInBounds_toArray, List.set_cons_succ, List.set_cons_zero]
                              refine WG.put rfl (v := .bool false) (fun w => by first | rfl | (go_simp; done) | (simp [go_sem]; done) | (simp [execOp, go_sem]; done)) ?_
                              simp only [Act.put, List.setIfInBounds_toArray, List.set_cons_succ, List.set_cons_zero]
                              refine WG.put rfl (v := .bool false) (fun w => by first | rfl | (go_simp; done) | (simp [go_sem]; done) | (simp [execOp, go_sem]; done)) ?_
                              simp only [Act.put, List.setIfInBounds_toArray, List.set_cons_succ, List.set_cons_zero]
                              refine WG.skip rfl ?_
                              simp only [Act.put, List.setIfInBounds_toArray, List.set_cons_succ, List.set_cons_zero]
                              refine WG.skip rfl ?_
                              simp only [Act.put, List.setIfInBounds_toArray, List.set_cons_succ, List.set_cons_zero]
                              refine WG.skip rfl ?_
                              simp only [Act.put, List.setIfInBounds_toArray, List.set_cons_succ, List.set_cons_zero]
                              refine WG.skip rfl ?_
                              simp only [Act.put, List.setIfInBounds_toArray, List.set_cons_succ, List.set_cons_zero]
                              refine WG.skip rfl ?_
                              simp only [Act.put, List.setIfInBounds_toArray, List.set_cons_succ, List.set_cons_zero]
                              refine WG.skip rfl ?_
                              simp only [Act.put, List.setIfInBounds_toArray, List.set_cons_succ, List.set_cons_zero]
                              refine WG.skip rfl ?_
                              simp only [Act.put, List.setIfInBounds_toArray, List.set_cons_succ, List.set_cons_zero]
                              refine WG.skip rfl ?_
                              simp only [Act.put, List.setIfInBounds_toArray, List.set_cons_succ, List.set_cons_zero]
                              refine WG.skip rfl ?_
                              simp only [Act.put, List.setIfInBounds_toArray, List.set_cons_succ, List.set_cons_zero]
                              refine WG.skip rfl ?_
                              simp only [Act.put, List.setIfInBounds_toArray, List.set_cons_succ, List.set_cons_zero]
                              refine WG.skip rfl ?_
                              simp only [Act.put, List.setIfInBounds_toArray, List.set_cons_succ, List.set_cons_zero]
                              refine WG.skip rfl ?_
                              simp only [Act.put, List.setIfInBounds_toArray, List.set_cons_succ, List.set_cons_zero]
                              refine WG.skip rfl ?_
                              simp only [Act.put, List.setIfInBounds_toArray, List.set_cons_succ, List.set_cons_zero]
                              refine WG.put rfl (v := .bool false) (fun w => by first | rfl | (go_simp; done) | (simp [go_sem]; done) | (simp [execOp, go_sem]; done)) ?_
                              simp only [Act.put, List.setIfInBounds_toArray, List.set_cons_succ, List.set_cons_zero]
                              refine WG.put rfl (v := .bool false) (fun w => by first | rfl | (go_simp; done) | (simp [go_sem]; done) | (simp [execOp, go_sem]; done)) ?_
                              simp only [Act.put, List.setIfInBounds_toArray, List.set_cons_succ, List.set_cons_zero]
                              refine WG.skip rfl ?_
                              simp only [Act.put, List.setIfInBounds_toArray, List.set_cons_succ, List.set_cons_zero]
                              refine WG.skip rfl ?_
                              simp only [Act.put, List.setIfInBounds_toArray, List.set_cons_succ, List.set_cons_zero]
                              refine WG.skip rfl ?_
                              simp only [Act.put, List.setIfInBounds_toArray, List.set_cons_succ, List.set_cons_zero]
                              refine WG.put rfl (v := .bool false) (fun w => by first | rfl | (go_simp; done) | (simp [go_sem]; done) | (simp [execOp, go_sem]; done)) ?_
                              simp only [Act.put, List.setIfInBounds_toArray, List.set_cons_succ, List.set_cons_zero]
                              refine WG.put rfl (v := .bool false) (fun w => by first | rfl | (go_simp; done) | (simp [go_sem]; done) | (simp [execOp, go_sem]; done)) ?_
                              simp only [Act.put, List.setIfInBounds_toArray, List.set_cons_succ, List.set_cons_zero]
                              refine WG.nil ?_
                              intro w2 B2
                              go_wp2
                              go_meet
                              exact ⟨by rw [HV.out, hqa, hqb]; simp, Below.then HHa.out B2⟩
                            | true =>
                              simp only [hqb] at hwb
                              by_cases hloc : (evA l a).loc = (evA l b).loc
                              · by_cases hab : (a : Int) = (b : Int)
                                · refine grow_allW (by kernel_rfl) (by kernel_rfl) ?_
                                  refine WG.put rfl (v := .pointer (some ⟨bx, 0, none⟩)) (fun w => by first | rfl | (go_simp; done) | (simp [go_sem]; done) | (simp [execOp, go_sem]; done)) ?_
                                  simp only [Act.put, List.setIfInBounds_toArray, List.set_cons_succ, List.set_cons_zero]
                                  refine WG.cell rfl 37 _ rfl rfl y0 (fun w h => by simp [go_sem, h]) ?_
                                  simp only [Act.put, List.setIfInBounds_toArray, List.set_cons_succ, List.set_cons_zero]
                                  refine WG.put rfl (v := .int .i64 (a : Int)) (fun w => by first | rfl | (go_simp; done) | (simp [go_sem]; done) | (simp [execOp, go_sem]; done)) ?_
                                  simp only [Act.put, List.setIfInBounds_toArray, List.set_cons_succ, List.set_cons_zero]
                                  refine WG.put rfl (v := .pointer (some ⟨be, oe + a * 5, none⟩)) (fun w => by first | rfl | (go_simp; done) | (simp [go_sem, hai]; done) | (simp [execOp, go_sem, hai]; done)) ?_
                                  simp only [Act.put, List.setIfInBounds_toArray, List.set_cons_succ, List.set_cons_zero]
                                  refine WG.range rfl 46 _ rfl rfl (evL (evA l a)) hbe ra _ Tryd.underlying46 rfl infoEv ?_
                                  simp only [Act.put, List.setIfInBounds_toArray, List.set_cons_succ, List.set_cons_zero]
                                  refine WG.call rfl (v := .bool true) (fun w' _ => hwa w') (fun w => by first | rfl | (go_simp; done) | (simp [go_sem]; done) | (simp [execOp, go_sem]; done)) ?_
                                  simp only [Act.put, List.setIfInBounds_toArray, List.set_cons_succ, List.set_cons_zero]
                                  refine WG.put rfl (v := .bool true) (fun w => by first | rfl | (go_simp; done) | (simp [go_sem]; done) | (simp [execOp, go_sem]; done)) ?_
                                  simp only [Act.put, List.setIfInBounds_toArray, List.set_cons_succ, List.set_cons_zero]
                                  refine WG.put rfl (v := .pointer (some ⟨bx, 0, none⟩)) (fun w => by first | rfl | (go_simp; done) | (simp [go_sem]; done) | (simp [execOp, go_sem]; done)) ?_
                                  simp only [Act.put, List.setIfInBounds_toArray, List.set_cons_succ, List.set_cons_zero]
                                  refine WG.cell rfl 37 _ rfl rfl y0 (fun w h => by simp [go_sem, h]) ?_
                                  simp only [Act.put, List.setIfInBounds_toArray, List.set_cons_succ, List.set_cons_zero]
                                  refine WG.put rfl (v := .int .i64 (b : Int)) (fun w => by first | rfl | (go_simp; done) | (simp [go_sem]; done) | (simp [execOp, go_sem]; done)) ?_
                                  simp only [Act.put, List.setIfInBounds_toArray, List.set_cons_succ, List.set_cons_zero]
                                  refine WG.put rfl (v := .pointer (some ⟨be, oe + b * 5, none⟩)) (fun w => by first | rfl | (go_simp; done) | (simp [go_sem, hbi]; done) | (simp [execOp, go_sem, hbi]; done)) ?_
                                  simp only [Act.put, List.setIfInBounds_toArray, List.set_cons_succ, List.set_cons_zero]
                                  refine WG.range rfl 46 _ rfl rfl (evL (evA l b)) hbe rb _ Tryd.underlying46 rfl infoEv ?_
                                  simp only [Act.put, List.setIfInBounds_toArray, List.set_cons_succ, List.set_cons_zero]
                                  refine WG.call rfl (v := .bool true) (fun w' _ => hwb w') (fun w => by first | rfl | (go_simp; done) | (simp [go_sem]; done) | (simp [execOp, go_sem]; done)) ?_
                                  simp only [Act.put, List.setIfInBounds_toArray, List.set_cons_succ, List.set_cons_zero]
                                  refine WG.put rfl (v := .bool true) (fun w => by first | rfl | (go_simp; done) | (simp [go_sem]; done) | (simp [execOp, go_sem]; done)) ?_
                                  simp only [Act.put, List.setIfInBounds_toArray, List.set_cons_succ, List.set_cons_zero]
                                  refine WG.put rfl (v := .bool true) (fun w => by first | rfl | (go_simp; done) | (simp [go_sem]; done) | (simp [execOp, go_sem]; done)) ?_
                                  simp only [Act.put, List.setIfInBounds_toArray, List.set_cons_succ, List.set_cons_zero]
                                  refine WG.put rfl (v := .pointer (some ⟨bx, 0, none⟩)) (fun w => by first | rfl | (go_simp; done) | (simp [go_sem]; done) | (simp [execOp, go_sem]; done)) ?_
                                  simp only [Act.put, List.setIfInBounds_toArray, List.set_cons_succ, List.set_cons_zero]
                                  refine WG.cell rfl 37 _ rfl rfl y0 (fun w h => by simp [go_sem, h]) ?_
                                  simp only [Act.put, List.setIfInBounds_toArray, List.set_cons_succ, List.set_cons_zero]
                                  refine WG.put rfl (v := .int .i64 (a : Int)) (fun w => by first | rfl | (go_simp; done) | (simp [go_sem]; done) | (simp [execOp, go_sem]; done)) ?_
                                  simp only [Act.put, List.setIfInBounds_toArray, List.set_cons_succ, List.set_cons_zero]
                                  refine WG.put rfl (v := .pointer (some ⟨be, oe + a * 5, none⟩)) (fun w => by first | rfl | (go_simp; done) | (simp [go_sem, hai]; done) | (simp [execOp, go_sem, hai]; done)) ?_
                                  simp only [Act.put, List.setIfInBounds_toArray, List.set_cons_succ, List.set_cons_zero]
                                  refine WG.put rfl (v := .pointer (some ⟨be, oe + a * 5 + 3, none⟩)) (fun w => by first | rfl | (go_simp; done) | (simp [go_sem]; done) | (simp [execOp, go_sem]; done)) ?_
                                  simp only [Act.put, List.setIfInBounds_toArray, List.set_cons_succ, List.set_cons_zero]
                                  refine WG.cell rfl 3 _ rfl rfl la (fun w h => by simp [go_sem, h]) ?_
                                  simp only [Act.put, List.setIfInBounds_toArray, List.set_cons_succ, List.set_cons_zero]
                                  refine WG.put rfl (v := .pointer (some ⟨bx, 0, none⟩)) (fun w => by first | rfl | (go_simp; done) | (simp [go_sem]; done) | (simp [execOp, go_sem]; done)) ?_
                                  simp only [Act.put, List.setIfInBounds_toArray, List.set_cons_succ, List.set_cons_zero]
                                  refine WG.cell rfl 37 _ rfl rfl y0 (fun w h => by simp [go_sem, h]) ?_
                                  simp only [Act.put, List.setIfInBounds_toArray, List.set_cons_succ, List.set_cons_zero]
                                  refine WG.put rfl (v := .int .i64 (b : Int)) (fun w => by first | rfl | (go_simp; done) | (simp [go_sem]; done) | (simp [execOp, go_sem]; done)) ?_
                                  simp only [Act.put, List.setIfInBounds_toArray, List.set_cons_succ, List.set_cons_zero]
                                  refine WG.put rfl (v := .pointer (some ⟨be, oe + b * 5, none⟩)) (fun w => by first | rfl | (go_simp; done) | (simp [go_sem, hbi]; done) | (simp [execOp, go_sem, hbi]; done)) ?_
                                  simp only [Act.put, List.setIfInBounds_toArray, List.set_cons_succ, List.set_cons_zero]
                                  refine WG.put rfl (v := .pointer (some ⟨be, oe + b * 5 + 3, none⟩)) (fun w => by first | rfl | (go_simp; done) | (simp [go_sem]; done) | (simp [execOp, go_sem]; done)) ?_
                                  simp only [Act.put, List.setIfInBounds_toArray, List.set_cons_succ, List.set_cons_zero]
                                  refine WG.cell rfl 3 _ rfl rfl lb (fun w h => by simp [go_sem, h]) ?_
                                  simp only [Act.put, List.setIfInBounds_toArray, List.set_cons_succ, List.set_cons_zero]
                                  refine WG.put rfl (v := .bool true) (fun w => by first | rfl | (go_simp; done) | (simp [go_sem, hloc]; done) | (simp [execOp, go_sem, hloc]; done)) ?_
                                  simp only [Act.put, List.setIfInBounds_toArray, List.set_cons_succ, List.set_cons_zero]
                                  refine WG.put rfl (v := .bool true) (fun w => by first | rfl | (go_simp; done) | (simp [go_sem]; done) | (simp [execOp, go_sem]; done)) ?_
                                  simp only [Act.put, List.setIfInBounds_toArray, List.set_cons_succ, List.set_cons_zero]
                                  refine WG.put rfl (v := .bool true) (fun w => by first | rfl | (go_simp; done) | (simp [go_sem]; done) | (simp [execOp, go_sem]; done)) ?_
                                  simp only [Act.put, List.setIfInBounds_toArray, List.set_cons_succ, List.set_cons_zero]
                                  refine WG.put rfl (v := .int .i64 (a : Int)) (fun w => by first | rfl | (go_simp; done) | (simp [go_sem]; done) | (simp [execOp, go_sem]; done)) ?_
                                  simp only [Act.put, List.setIfInBounds_toArray, List.set_cons_succ, List.set_cons_zero]
                                  refine WG.put rfl (v := .int .i64 (b : Int)) (fun w => by first | rfl | (go_simp; done) | (simp [go_sem]; done) | (simp [execOp, go_sem]; done)) ?_
                                  simp only [Act.put, List.setIfInBounds_toArray, List.set_cons_succ, List.set_cons_zero]
                                  refine WG.put rfl (v := .bool false) (fun w => by first | rfl | (go_simp; done) | (simp [go_sem, hab]; done) | (simp [execOp, go_sem, hab]; done)) ?_
                                  simp only [Act.put, List.setIfInBounds_toArray, List.set_cons_succ, List.set_cons_zero]
                                  refine WG.put rfl (v := .bool false) (fun w => by first | rfl | (go_simp; done) | (simp [go_sem]; done) | (simp [execOp, go_sem]; done)) ?_
                                  simp only [Act.put, List.setIfInBounds_toArray, List.set_cons_succ, List.set_cons_zero]
                                  refine WG.put rfl (v := .bool false) (fun w => by first | rfl | (go_simp; done) | (simp [go_sem]; done) | (simp [execOp, go_sem]; done)) ?_
                                  simp only [Act.put, List.setIfInBounds_toArray, List.set_cons_succ, List.set_cons_zero]
                                  refine WG.nil ?_
                                  intro w2 B2
                                  go_wp2
                                  go_meet
                                  exact ⟨by rw [HV.out, hqa, hqb]; simp [hloc]; omega, Below.then HHa.out B2⟩
                                · refine grow_allW (by kernel_rfl) (by kernel_rfl) ?_
                                  refine WG.put rfl (v := .pointer (some ⟨bx, 0, none⟩)) (fun w => by first | rfl | (go_simp; done) | (simp [go_sem]; done) | (simp [execOp, go_sem]; done)) ?_
                                  simp only [Act.put, List.setIfInBounds_toArray, List.set_cons_succ, List.set_cons_zero]
                                  refine WG.cell rfl 37 _ rfl rfl y0 (fun w h => by simp [go_sem, h]) ?_
                                  simp only [Act.put, List.setIfInBounds_toArray, List.set_cons_succ, List.set_cons_zero]
                                  refine WG.put rfl (v := .int .i64 (a : Int)) (fun w => by first | rfl | (go_simp; done) | (simp [go_sem]; done) | (simp [execOp, go_sem]; done)) ?_
                                  simp only [Act.put, List.setIfInBounds_toArray, List.set_cons_succ, List.set_cons_zero]
                                  refine WG.put rfl (v := .pointer (some ⟨be, oe + a * 5, none⟩)) (fun w => by first | rfl | (go_simp; done) | (simp [go_sem, hai]; done) | (simp [execOp, go_sem, hai]; done)) ?_
                                  simp only [Act.put, List.setIfInBounds_toArray, List.set_cons_succ, List.set_cons_zero]
                                  refine WG.range rfl 46 _ rfl rfl (evL (evA l a)) hbe ra _ Tryd.underlying46 rfl infoEv ?_
                                  simp only [Act.put, List.setIfInBounds_toArray, List.set_cons_succ, List.set_cons_zero]
                                  refine WG.call rfl (v := .bool true) (fun w' _ => hwa w') (fun w => by first | rfl | (go_simp; done) | (simp [go_sem]; done) | (simp [execOp, go_sem]; done)) ?_
                                  simp only [Act.put, List.setIfInBounds_toArray, List.set_cons_succ, List.set_cons_zero]
                                  refine WG.put rfl (v := .bool true) (fun w => by first | rfl | (go_simp; done) | (simp [go_sem]; done) | (simp [execOp, go_sem]; done)) ?_
                                  simp only [Act.put, List.setIfInBounds_toArray, List.set_cons_succ, List.set_cons_zero]
                                  refine WG.put rfl (v := .pointer (some ⟨bx, 0, none⟩)) (fun w => by first | rfl | (go_simp; done) | (simp [go_sem]; done) | (simp [execOp, go_sem]; done)) ?_
                                  simp only [Act.put, List.setIfInBounds_toArray, List.set_cons_succ, List.set_cons_zero]
                                  refine WG.cell rfl 37 _ rfl rfl y0 (fun w h => by simp [go_sem, h]) ?_
                                  simp only [Act.put, List.setIfInBounds_toArray, List.set_cons_succ, List.set_cons_zero]
                                  refine WG.put rfl (v := .int .i64 (b : Int)) (fun w => by first | rfl | (go_simp; done) | (simp [go_sem]; done) | (simp [execOp, go_sem]; done)) ?_
                                  simp only [Act.put, List.setIfInBounds_toArray, List.set_cons_succ, List.set_cons_zero]
                                  refine WG.put rfl (v := .pointer (some ⟨be, oe + b * 5, none⟩)) (fun w => by first | rfl | (go_simp; done) | (simp [go_sem, hbi]; done) | (simp [execOp, go_sem, hbi]; done)) ?_
                                  simp only [Act.put, List.setIfInBounds_toArray, List.set_cons_succ, List.set_cons_zero]
                                  refine WG.range rfl 46 _ rfl rfl (evL (evA l b)) hbe rb _ Tryd.underlying46 rfl infoEv ?_
                                  simp only [Act.put, List.setIfInBounds_toArray, List.set_cons_succ, List.set_cons_zero]
                                  refine WG.call rfl (v := .bool true) (fun w' _ => hwb w') (fun w => by first | rfl | (go_simp; done) | (simp [go_sem]; done) | (simp [execOp, go_sem]; done)) ?_
                                  simp only [Act.put, List.setIfInBounds_toArray, List.set_cons_succ, List.set_cons_zero]
                                  refine WG.put rfl (v := .bool true) (fun w => by first | rfl | (go_simp; done) | (simp [go_sem]; done) | (simp [execOp, go_sem]; done)) ?_
                                  simp only [Act.put, List.setIfInBounds_toArray, List.set_cons_succ, List.set_cons_zero]
                                  refine WG.put rfl (v := .bool true) (fun w => by first | rfl | (go_simp; done) | (simp [go_sem]; done) | (simp [execOp, go_sem]; done)) ?_
                                  simp only [Act.put, List.setIfInBounds_toArray, List.set_cons_succ, List.set_cons_zero]
                                  refine WG.put rfl (v := .pointer (some ⟨bx, 0, none⟩)) (fun w => by first | rfl | (go_simp; done) | (simp [go_sem]; done) | (simp [execOp, go_sem]; done)) ?_
                                  simp only [Act.put, List.setIfInBounds_toArray, List.set_cons_succ, List.set_cons_zero]
                                  refine WG.cell rfl 37 _ rfl rfl y0 (fun w h => by simp [go_sem, h]) ?_
                                  simp only [Act.put, List.setIfInBounds_toArray, List.set_cons_succ, List.set_cons_zero]
                                  refine WG.put rfl (v := .int .i64 (a : Int)) (fun w => by first | rfl | (go_simp; done) | (simp [go_sem]; done) | (simp [execOp, go_sem]; done)) ?_
                                  simp only [Act.put, List.setIfInBounds_toArray, List.set_cons_succ, List.set_cons_zero]
                                  refine WG.put rfl (v := .pointer (some ⟨be, oe + a * 5, none⟩)) (fun w => by first | rfl | (go_simp; done) | (simp [go_sem, hai]; done) | (simp [execOp, go_sem, hai]; done)) ?_
                                  simp only [Act.put, List.setIfInBounds_toArray, List.set_cons_succ, List.set_cons_zero]
                                  refine WG.put rfl (v := .pointer (some ⟨be, oe + a * 5 + 3, none⟩)) (fun w => by first | rfl | (go_simp; done) | (simp [go_sem]; done) | (simp [execOp, go_sem]; done)) ?_
                                  simp only [Act.put, List.setIfInBounds_toArray, List.set_cons_succ, List.set_cons_zero]
                                  refine WG.cell rfl 3 _ rfl rfl la (fun w h => by simp [go_sem, h]) ?_
                                  simp only [Act.put, List.setIfInBounds_toArray, List.set_cons_succ, List.set_cons_zero]
                                  refine WG.put rfl (v := .pointer (some ⟨bx, 0, none⟩)) (fun w => by first | rfl | (go_simp; done) | (simp [go_sem]; done) | (simp [execOp, go_sem]; done)) ?_
                                  simp only [Act.put, List.setIfInBounds_toArray, List.set_cons_succ, List.set_cons_zero]
                                  refine WG.cell rfl 37 _ rfl rfl y0 (fun w h => by simp [go_sem, h]) ?_
                                  simp only [Act.put, List.setIfInBounds_toArray, List.set_cons_succ, List.set_cons_zero]
                                  refine WG.put rfl (v := .int .i64 (b : Int)) (fun w => by first | rfl | (go_simp; done) | (simp [go_sem]; done) | (simp [execOp, go_sem]; done)) ?_
                                  simp only [Act.put, List.setIfInBounds_toArray, List.set_cons_succ, List.set_cons_zero]
                                  refine WG.put rfl (v := .pointer (some ⟨be, oe + b * 5, none⟩)) (fun w => by first | rfl | (go_simp; done) | (simp [go_sem, hbi]; done) | (simp [execOp, go_sem, hbi]; done)) ?_
                                  simp only [Act.put, List.setIfInBounds_toArray, List.set_cons_succ, List.set_cons_zero]
                                  refine WG.put rfl (v := .pointer (some ⟨be, oe + b * 5 + 3, none⟩)) (fun w => by first | rfl | (go_simp; done) | (simp [go_sem]; done) | (simp [execOp, go_sem]; done)) ?_
                                  simp only [Act.put, List.setIfInBounds_toArray, List.set_cons_succ, List.set_cons_zero]
                                  refine WG.cell rfl 3 _ rfl rfl lb (fun w h => by simp [go_sem, h]) ?_
                                  simp only [Act.put, List.setIfInBounds_toArray, List.set_cons_succ, List.set_cons_zero]
                                  refine WG.put rfl (v := .bool true) (fun w => by first | rfl | (go_simp; done) | (simp [go_sem, hloc]; done) | (simp [execOp, go_sem, hloc]; done)) ?_
                                  simp only [Act.put, List.setIfInBounds_toArray, List.set_cons_succ, List.set_cons_zero]
                                  refine WG.put rfl (v := .bool true) (fun w => by first | rfl | (go_simp; done) | (simp [go_sem]; done) | (simp [execOp, go_sem]; done)) ?_
                                  simp only [Act.put, List.setIfInBounds_toArray, List.set_cons_succ, List.set_cons_zero]
                                  refine WG.put rfl (v := .bool true) (fun w => by first | rfl | (go_simp; done) | (simp [go_sem]; done) | (simp [execOp, go_sem]; done)) ?_
                                  simp only [Act.put, List.setIfInBounds_toArray, List.set_cons_succ, List.set_cons_zero]
                                  refine WG.put rfl (v := .int .i64 (a : Int)) (fun w => by first | rfl | (go_simp; done) | (simp [go_sem]; done) | (simp [execOp, go_sem]; done)) ?_
                                  simp only [Act.put, List.setIfInBounds_toArray, List.set_cons_succ, List.set_cons_zero]
                                  refine WG.put rfl (v := .int .i64 (b : Int)) (fun w => by first | rfl | (go_simp; done) | (simp [go_sem]; done) | (simp [execOp, go_sem]; done)) ?_
                                  simp only [Act.put, List.setIfInBounds_toArray, List.set_cons_succ, List.set_cons_zero]
                                  refine WG.put rfl (v := .bool true) (fun w => by first | rfl | (go_simp; done) | (simp [go_sem, hab]; done) | (simp [execOp, go_sem, hab]; done)) ?_
                                  simp only [Act.put, List.setIfInBounds_toArray, List.set_cons_succ, List.set_cons_zero]
                                  refine WG.put rfl (v := .bool true) (fun w => by first | rfl | (go_simp; done) | (simp [go_sem]; done) | (simp [execOp, go_sem]; done)) ?_
                                  simp only [Act.put, List.setIfInBounds_toArray, List.set_cons_succ, List.set_cons_zero]
                                  refine WG.put rfl (v := .bool true) (fun w => by first | rfl | (go_simp; done) | (simp [go_sem]; done) | (simp [execOp, go_sem]; done)) ?_
                                  simp only [Act.put, List.setIfInBounds_toArray, List.set_cons_succ, List.set_cons_zero]
                                  refine WG.nil ?_
                                  intro w2 B2
                                  go_wp2
                                  go_meet
                                  exact ⟨by rw [HV.out, hqa, hqb]; simp [hloc]; omega, Below.then HHa.out B2⟩
                              · refine grow_allW (by kernel_rfl) (by kernel_rfl) ?_
                                refine WG.put rfl (v := .pointer (some ⟨bx, 0, none⟩)) (fun w => by first | rfl | (go_simp; done) | (simp [go_sem]; done) | (simp [execOp, go_sem]; done)) ?_
                                simp only [Act.put, List.setIfInBounds_toArray, List.set_cons_succ, List.set_cons_zero]
                                refine WG.cell rfl 37 _ rfl rfl y0 (fun w h => by simp [go_sem, h]) ?_
                                simp only [Act.put, List.setIfInBounds_toArray, List.set_cons_succ, List.set_cons_zero]
                                refine WG.put rfl (v := .int .i64 (a : Int)) (fun w => by first | rfl | (go_simp; done) | (simp [go_sem]; done) | (simp [execOp, go_sem]; done)) ?_
                                simp only [Act.put, List.setIfInBounds_toArray, List.set_cons_succ, List.set_cons_zero]
                                refine WG.put rfl (v := .pointer (some ⟨be, oe + a * 5, none⟩)) (fun w => by first | rfl | (go_simp; done) | (simp [go_sem, hai]; done) | (simp [execOp, go_sem, hai]; done)) ?_
                                simp only [Act.put, List.setIfInBounds_toArray, List.set_cons_succ, List.set_cons_zero]
                                refine WG.range rfl 46 _ rfl rfl (evL (evA l a)) hbe ra _ Tryd.underlying46 rfl infoEv ?_
                                simp only [Act.put, List.setIfInBounds_toArray, List.set_cons_succ, List.set_cons_zero]
                                refine WG.call rfl (v := .bool true) (fun w' _ => hwa w') (fun w => by first | rfl | (go_simp; done) | (simp [go_sem]; done) | (simp [execOp, go_sem]; done)) ?_
                                simp only [Act.put, List.setIfInBounds_toArray, List.set_cons_succ, List.set_cons_zero]
                                refine WG.put rfl (v := .bool true) (fun w => by first | rfl | (go_simp; done) | (simp [go_sem]; done) | (simp [execOp, go_sem]; done)) ?_
                                simp only [Act.put, List.setIfInBounds_toArray, List.set_cons_succ, List.set_cons_zero]
                                refine WG.put rfl (v := .pointer (some ⟨bx, 0, none⟩)) (fun w => by first | rfl | (go_simp; done) | (simp [go_sem]; done) | (simp [execOp, go_sem]; done)) ?_
                                simp only [Act.put, List.setIfInBounds_toArray, List.set_cons_succ, List.set_cons_zero]
                                refine WG.cell rfl 37 _ rfl rfl y0 (fun w h => by simp [go_sem, h]) ?_
                                simp only [Act.put, List.setIfInBounds_toArray, List.set_cons_succ, List.set_cons_zero]
                                refine WG.put rfl (v := .int .i64 (b : Int)) (fun w => by first | rfl | (go_simp; done) | (simp [go_sem]; done) | (simp [execOp, go_sem]; done)) ?_
                                simp only [Act.put, List.setIfInBounds_toArray, List.set_cons_succ, List.set_cons_zero]
                                refine WG.put rfl (v := .pointer (some ⟨be, oe + b * 5, none⟩)) (fun w => by first | rfl | (go_simp; done) | (simp [go_sem, hbi]; done) | (simp [execOp, go_sem, hbi]; done)) ?_
                                simp only [Act.put, List.setIfInBounds_toArray, List.set_cons_succ, List.set_cons_zero]
                                refine WG.range rfl 46 _ rfl rfl (evL (evA l b)) hbe rb _ Tryd.underlying46 rfl infoEv ?_
                                simp only [Act.put, List.setIfInBounds_toArray, List.set_cons_succ, List.set_cons_zero]
                                refine WG.call rfl (v := .bool true) (fun w' _ => hwb w') (fun w => by first | rfl | (go_simp; done) | (simp [go_sem]; done) | (simp [execOp, go_sem]; done)) ?_
                                simp only [Act.put, List.setIfInBounds_toArray, List.set_cons_succ, List.set_cons_zero]
                                refine WG.put rfl (v := .bool true) (fun w => by first | rfl | (go_simp; done) | (simp [go_sem]; done) | (simp [execOp, go_sem]; done)) ?_
                                simp only [Act.put, List.setIfInBounds_toArray, List.set_cons_succ, List.set_cons_zero]
                                refine WG.put rfl (v := .bool true) (fun w => by first | rfl | (go_simp; done) | (simp [go_sem]; done) | (simp [execOp, go_sem]; done)) ?_
                                simp only [Act.put, List.setIfInBounds_toArray, List.set_cons_succ, List.set_cons_zero]
                                refine WG.put rfl (v := .pointer (some ⟨bx, 0, none⟩)) (fun w => by first | rfl | (go_simp; done) | (simp [go_sem]; done) | (simp [execOp, go_sem]; done)) ?_
                                simp only [Act.put, List.setIfInBounds_toArray, List.set_cons_succ, List.set_cons_zero]
                                refine WG.cell rfl 37 _ rfl rfl y0 (fun w h => by simp [go_sem, h]) ?_
                                simp only [Act.put, List.setIfInBounds_toArray, List.set_cons_succ, List.set_cons_zero]
                                refine WG.put rfl (v := .int .i64 (a : Int)) (fun w => by first | rfl | (go_simp; done) | (simp [go_sem]; done) | (simp [execOp, go_sem]; done)) ?_
                                simp only [Act.put, List.setIfInBounds_toArray, List.set_cons_succ, List.set_cons_zero]
                                refine WG.put rfl (v := .pointer (some ⟨be, oe + a * 5, none⟩)) (fun w => by first | rfl | (go_simp; done) | (simp [go_sem, hai]; done) | (simp [execOp, go_sem, hai]; done)) ?_
                                simp only [Act.put, List.setIfInBounds_toArray, List.set_cons_succ, List.set_cons_zero]
                                refine WG.put rfl (v := .pointer (some ⟨be, oe + a * 5 + 3, none⟩)) (fun w => by first | rfl | (go_simp; done) | (simp [go_sem]; done) | (simp [execOp, go_sem]; done)) ?_
                                simp only [Act.put, List.setIfInBounds_toArray, List.set_cons_succ, List.set_cons_zero]
                                refine WG.cell rfl 3 _ rfl rfl la (fun w h => by simp [go_sem, h]) ?_
                                simp only [Act.put, List.setIfInBounds_toArray, List.set_cons_succ, List.set_cons_zero]
                                refine WG.put rfl (v := .pointer (some ⟨bx, 0, none⟩)) (fun w => by first | rfl | (go_simp; done) | (simp [go_sem]; done) | (simp [execOp, go_sem]; done)) ?_
                                simp only [Act.put, List.setIfInBounds_toArray, List.set_cons_succ, List.set_cons_zero]
                                refine WG.cell rfl 37 _ rfl rfl y0 (fun w h => by simp [go_sem, h]) ?_
                                simp only [Act.put, List.setIfInBounds_toArray, List.set_cons_succ, List.set_cons_zero]
                                refine WG.put rfl (v := .int .i64 (b : Int)) (fun w => by first | rfl | (go_simp; done) | (simp [go_sem]; done) | (simp [execOp, go_sem]; done)) ?_
                                simp only [Act.put, List.setIfInBounds_toArray, List.set_cons_succ, List.set_cons_zero]
                                refine WG.put rfl (v := .pointer (some ⟨be, oe + b * 5, none⟩)) (fun w => by first | rfl | (go_simp; done) | (simp [go_sem, hbi]; done) | (simp [execOp, go_sem, hbi]; done)) ?_
                                simp only [Act.put, List.setIfInBounds_toArray, List.set_cons_succ, List.set_cons_zero]
                                refine WG.put rfl (v := .pointer (some ⟨be, oe + b * 5 + 3, none⟩)) (fun w => by first | rfl | (go_simp; done) | (simp [go_sem]; done) | (simp [execOp, go_sem]; done)) ?_
                                simp only [Act.put, List.setIfInBounds_toArray, List.set_cons_succ, List.set_cons_zero]
                                refine WG.cell rfl 3 _ rfl rfl lb (fun w h => by simp [go_sem, h]) ?_
                                simp only [Act.put, List.setIfInBounds_toArray, List.set_cons_succ, List.set_cons_zero]
                                refine WG.put rfl (v := .bool false) (fun w => by first | rfl | (go_simp; done) | (simp [go_sem, hloc]; done) | (simp [execOp, go_sem, hloc]; done)) ?_
                                simp only [Act.put, List.setIfInBounds_toArray, List.set_cons_succ, List.set_cons_zero]
                                refine WG.put rfl (v := .bool false) (fun w => by first | rfl | (go_simp; done) | (simp [go_sem]; done) | (simp [execOp, go_sem]; done)) ?_
                                simp only [Act.put, List.setIfInBounds_toArray, List.set_cons_succ, List.set_cons_zero]
                                refine WG.put rfl (v := .bool false) (fun w => by first | rfl | (go_simp; done) | (simp [go_sem]; done) | (simp [execOp, go_sem]; done)) ?_
                                simp only [Act.put, List.setIfInBounds_toArray, List.set_cons_succ, List.set_cons_zero]
                                refine WG.skip rfl ?_
                                simp only [Act.put, List.setIfInBounds_toArray, List.set_cons_succ, List.set_cons_zero]
                                refine WG.skip rfl ?_
                                simp only [Act.put, List.setIfInBounds_toArray, List.set_cons_succ, List.set_cons_zero]
                                refine WG.skip rfl ?_
                                simp only [Act.put, List.setIfInBounds_toArray, List.set_cons_succ, List.set_cons_zero]
                                refine WG.put rfl (v := .bool false) (fun w => by first | rfl | (go_simp; done) | (simp [go_sem]; done) | (simp [execOp, go_sem]; done)) ?_
                                simp only [Act.put, List.setIfInBounds_toArray, List.set_cons_succ, List.set_cons_zero]
                                refine WG.put rfl (v := .bool false) (fun w => by first | rfl | (go_simp; done) | (simp [go_sem]; done) | (simp [execOp, go_sem]; done)) ?_
                                simp only [Act.put, List.setIfInBounds_toArray, List.set_cons_succ, List.set_cons_zero]
                                refine WG.nil ?_
                                intro w2 B2
                                go_wp2
                                go_meet
                                exact ⟨by rw [HV.out, hqa, hqb]; simp [hloc], Below.then HHa.out B2⟩
                      case rest =>
                        obtain ⟨rfl, B2⟩ := hcut
                        clear y0 BBa BWa B1 HHa
                        have h1 := HC1.out a b
                        have h1' := HC1.out b a
                        rw [wwB_swap l b a] at h1'
                        have h2 := HC2.out a b hlt hlt2
                        generalize wwB l a b = q at *
                        have BBb := Below.then BB.out B2.out
                        go_upto_region 19 with fail
                        try simp only [Act.put]
                        go_cut [11] from 32 to 151 (fun v wx => v = .int .u64 (oneV q) ∧ Hid (Below wr.heap.size wr wx))
                        case first =>
                          as_aux_lemma =>
                            have c2a := (n2.out.grown BBb).row a ha64
                            have c2b := (n2.out.grown BBb).row b hb64
                            have hXa := HCL.out a
                            have hXb := HCL.out b
                            generalize CF a = Xa at c2a hXa h1 h2
                            generalize CF b = Xb at c2b hXb h1' h2
                            cases q with
                            | false =>
                              have va : ((b2 Xa b : Nat) : Int) = 0 := by rw [bit_b2 (h1 rfl)]; rfl
                              have vb : ((b2 Xb a : Nat) : Int) = 0 := by rw [bit_b2 (h1' rfl)]; rfl
                              refine grow_allW (by kernel_rfl) (by kernel_rfl) ?_
                              refine WG.put rfl (v := .int .i64 (a : Int)) (fun w => by first | rfl | (go_simp; done) | (simp [go_sem]; done) | (simp [execOp, go_sem]; done)) ?_
                              simp only [Act.put, List.setIfInBounds_toArray, List.set_cons_succ, List.set_cons_zero]
                              refine WG.put rfl (v := .pointer (some ⟨p2, 1, none⟩)) (fun w => by first | rfl | (go_simp; done) | (simp [go_sem]; done) | (simp [execOp, go_sem]; done)) ?_
                              simp only [Act.put, List.setIfInBounds_toArray, List.set_cons_succ, List.set_cons_zero]
                              refine WG.put rfl (v := .pointer (some ⟨p2, 1 + a, none⟩)) (fun w => by first | rfl | (go_simp; done) | (simp [go_sem, ha64i]; done) | (simp [execOp, go_sem, ha64i]; done)) ?_
                              simp only [Act.put, List.setIfInBounds_toArray, List.set_cons_succ, List.set_cons_zero]
                              refine WG.cell rfl 29 _ rfl rfl c2a (fun w h => by simp [go_sem, h]) ?_
                              simp only [Act.put, List.setIfInBounds_toArray, List.set_cons_succ, List.set_cons_zero]
                              refine WG.put rfl (v := .int .i64 (b : Int)) (fun w => by first | rfl | (go_simp; done) | (simp [go_sem]; done) | (simp [execOp, go_sem]; done)) ?_
                              simp only [Act.put, List.setIfInBounds_toArray, List.set_cons_succ, List.set_cons_zero]
                              refine WG.put rfl (fun w => exec_cvt rfl rfl (by omega)) ?_
                              simp only [Act.put, List.setIfInBounds_toArray, List.set_cons_succ, List.set_cons_zero]
                              refine WG.put rfl (fun w => exec_shr (X := Xa) rfl rfl rfl hXa hb64) ?_
                              simp only [Act.put, List.setIfInBounds_toArray, List.set_cons_succ, List.set_cons_zero]
                              refine WG.put rfl (v := .int .u64 0) (fun w => (exec_bit (X := Xa) rfl rfl hXa).trans (by rw [va])) ?_
                              simp only [Act.put, List.setIfInBounds_toArray, List.set_cons_succ, List.set_cons_zero]
                              refine WG.put rfl (v := .int .i64 (b : Int)) (fun w => by first | rfl | (go_simp; done) | (simp [go_sem]; done) | (simp [execOp, go_sem]; done)) ?_
                              simp only [Act.put, List.setIfInBounds_toArray, List.set_cons_succ, List.set_cons_zero]
                              refine WG.put rfl (v := .pointer (some ⟨p2, 1, none⟩)) (fun w => by first | rfl | (go_simp; done) | (simp [go_sem]; done) | (simp [execOp, go_sem]; done)) ?_
                              simp only [Act.put, List.setIfInBounds_toArray, List.set_cons_succ, List.set_cons_zero]
                              refine WG.put rfl (v := .pointer (some ⟨p2, 1 + b, none⟩)) (fun w => by first | rfl | (go_simp; done) | (simp [go_sem, hb64i]; done) | (simp [execOp, go_sem, hb64i]; done)) ?_
                              simp only [Act.put, List.setIfInBounds_toArray, List.set_cons_succ, List.set_cons_zero]
                              refine WG.cell rfl 29 _ rfl rfl c2b (fun w h => by simp [go_sem, h]) ?_
                              simp only [Act.put, List.setIfInBounds_toArray, List.set_cons_succ, List.set_cons_zero]
                              refine WG.put rfl (v := .int .i64 (a : Int)) (fun w => by first | rfl | (go_simp; done) | (simp [go_sem]; done) | (simp [execOp, go_sem]; done)) ?_
                              simp only [Act.put, List.setIfInBounds_toArray, List.set_cons_succ, List.set_cons_zero]
                              refine WG.put rfl (fun w => exec_cvt rfl rfl (by omega)) ?_
                              simp only [Act.put, List.setIfInBounds_toArray, List.set_cons_succ, List.set_cons_zero]
                              refine WG.put rfl (fun w => exec_shr (X := Xb) rfl rfl rfl hXb ha64) ?_
                              simp only [Act.put, List.setIfInBounds_toArray, List.set_cons_succ, List.set_cons_zero]
                              refine WG.put rfl (v := .int .u64 0) (fun w => (exec_bit (X := Xb) rfl rfl hXb).trans (by rw [vb])) ?_
                              simp only [Act.put, List.setIfInBounds_toArray, List.set_cons_succ, List.set_cons_zero]
                              refine WG.put rfl (v := .int .u64 0) (fun w => by first | rfl | (go_simp; done) | (simp [go_sem]; done) | (simp [execOp, go_sem]; done)) ?_
                              simp only [Act.put, List.setIfInBounds_toArray, List.set_cons_succ, List.set_cons_zero]
                              refine WG.put rfl (v := .int .u64 0) (fun w => by first | rfl | (go_simp; done) | (simp [go_sem]; done) | (simp [execOp, go_sem]; done)) ?_
                              simp only [Act.put, List.setIfInBounds_toArray, List.set_cons_succ, List.set_cons_zero]
                              refine WG.nil ?_
                              intro w3 B3
                              go_wp2
                              go_meet
                              exact ⟨rfl, Below.then B2.out B3⟩
                            | true =>
                              have h3 := h2 rfl
                              cases hq : Xa.testBit b with
                              | false =>
                                rw [hq] at h3
                                have va : ((b2 Xa b : Nat) : Int) = 0 := by rw [bit_b2 hq]; rfl
                                have vb : ((b2 Xb a : Nat) : Int) = 1 := by rw [bit_b2 h3]; rfl
                                refine grow_allW (by kernel_rfl) (by kernel_rfl) ?_
                                refine WG.put rfl (v := .int .i64 (a : Int)) (fun w => by first | rfl | (go_simp; done) | (simp [go_sem]; done) | (simp [execOp, go_sem]; done)) ?_
                                simp only [Act.put, List.setIfInBounds_toArray, List.set_cons_succ, List.set_cons_zero]
                                refine WG.put rfl (v := .pointer (some ⟨p2, 1, none⟩)) (fun w => by first | rfl | (go_simp; done) | (simp [go_sem]; done) | (simp [execOp, go_sem]; done)) ?_
                                simp only [Act.put, List.setIfInBounds_toArray, List.set_cons_succ, List.set_cons_zero]
                                refine WG.put rfl (v := .pointer (some ⟨p2, 1 + a, none⟩)) (fun w => by first | rfl | (go_simp; done) | (simp [go_sem, ha64i]; done) | (simp [execOp, go_sem, ha64i]; done)) ?_
                                simp only [Act.put, List.setIfInBounds_toArray, List.set_cons_succ, List.set_cons_zero]
                                refine WG.cell rfl 29 _ rfl rfl c2a (fun w h => by simp [go_sem, h]) ?_
                                simp only [Act.put, List.setIfInBounds_toArray, List.set_cons_succ, List.set_cons_zero]
                                refine WG.put rfl (v := .int .i64 (b : Int)) (fun w => by first | rfl | (go_simp; done) | (simp [go_sem]; done) | (simp [execOp, go_sem]; done)) ?_
                                simp only [Act.put, List.setIfInBounds_toArray, List.set_cons_succ, List.set_cons_zero]
                                refine WG.put rfl (fun w => exec_cvt rfl rfl (by omega)) ?_
                                simp only [Act.put, List.setIfInBounds_toArray, List.set_cons_succ, List.set_cons_zero]
                                refine WG.put rfl (fun w => exec_shr (X := Xa) rfl rfl rfl hXa hb64) ?_
                                simp only [Act.put, List.setIfInBounds_toArray, List.set_cons_succ, List.set_cons_zero]
                                refine WG.put rfl (v := .int .u64 0) (fun w => (exec_bit (X := Xa) rfl rfl hXa).trans (by rw [va])) ?_
                                simp only [Act.put, List.setIfInBounds_toArray, List.set_cons_succ, List.set_cons_zero]
                                refine WG.put rfl (v := .int .i64 (b : Int)) (fun w => by first | rfl | (go_simp; done) | (simp [go_sem]; done) | (simp [execOp, go_sem]; done)) ?_
                                simp only [Act.put, List.setIfInBounds_toArray, List.set_cons_succ, List.set_cons_zero]
                                refine WG.put rfl (v := .pointer (some ⟨p2, 1, none⟩)) (fun w => by first | rfl | (go_simp; done) | (simp [go_sem]; done) | (simp [execOp, go_sem]; done)) ?_
                                simp only [Act.put, List.setIfInBounds_toArray, List.set_cons_succ, List.set_cons_zero]
                                refine WG.put rfl (v := .pointer (some ⟨p2, 1 + b, none⟩)) (fun w => by first | rfl | (go_simp; done) | (simp [go_sem, hb64i]; done) | (simp [execOp, go_sem, hb64i]; done)) ?_
                                simp only [Act.put, List.setIfInBounds_toArray, List.set_cons_succ, List.set_cons_zero]
                                refine WG.cell rfl 29 _ rfl rfl c2b (fun w h => by simp [go_sem, h]) ?_
                                simp only [Act.put, List.setIfInBounds_toArray, List.set_cons_succ, List.set_cons_zero]
                                refine WG.put rfl (v := .int .i64 (a : Int)) (fun w => by first | rfl | (go_simp; done) | (simp [go_sem]; done) | (simp [execOp, go_sem]; done)) ?_
                                simp only [Act.put, List.setIfInBounds_toArray, List.set_cons_succ, List.set_cons_zero]
                                refine WG.put rfl (fun w => exec_cvt rfl rfl (by omega)) ?_
                                simp only [Act.put, List.setIfInBounds_toArray, List.set_cons_succ, List.set_cons_zero]
                                refine WG.put rfl (fun w => exec_shr (X := Xb) rfl rfl rfl hXb ha64) ?_
                                simp only [Act.put, List.setIfInBounds_toArray, List.set_cons_succ, List.set_cons_zero]
                                refine WG.put rfl (v := .int .u64 1) (fun w => (exec_bit (X := Xb) rfl rfl hXb).trans (by rw [vb])) ?_
                                simp only [Act.put, List.setIfInBounds_toArray, List.set_cons_succ, List.set_cons_zero]
                                refine WG.put rfl (v := .int .u64 1) (fun w => by first | rfl | (go_simp; done) | (simp [go_sem]; done) | (simp [execOp, go_sem]; done)) ?_
                                simp only [Act.put, List.setIfInBounds_toArray, List.set_cons_succ, List.set_cons_zero]
                                refine WG.put rfl (v := .int .u64 1) (fun w => by first | rfl | (go_simp; done) | (simp [go_sem]; done) | (simp [execOp, go_sem]; done)) ?_
                                simp only [Act.put, List.setIfInBounds_toArray, List.set_cons_succ, List.set_cons_zero]
                                refine WG.nil ?_
                                intro w3 B3
                                go_wp2
                                go_meet
                                exact ⟨rfl, Below.then B2.out B3⟩
                              | true =>
                                rw [hq] at h3
                                have va : ((b2 Xa b : Nat) : Int) = 1 := by rw [bit_b2 hq]; rfl
                                have vb : ((b2 Xb a : Nat) : Int) = 0 := by rw [bit_b2 h3]; rfl
                                refine grow_allW (by kernel_rfl) (by kernel_rfl) ?_
                                refine WG.put rfl (v := .int .i64 (a : Int)) (fun w => by first | rfl | (go_simp; done) | (simp [go_sem]; done) | (simp [execOp, go_sem]; done)) ?_
                                simp only [Act.put, List.setIfInBounds_toArray, List.set_cons_succ, List.set_cons_zero]
                                refine WG.put rfl (v := .pointer (some ⟨p2, 1, none⟩)) (fun w => by first | rfl | (go_simp; done) | (simp [go_sem]; done) | (simp [execOp, go_sem]; done)) ?_
                                simp only [Act.put, List.setIfInBounds_toArray, List.set_cons_succ, List.set_cons_zero]
                                refine WG.put rfl (v := .pointer (some ⟨p2, 1 + a, none⟩)) (fun w => by first | rfl | (go_simp; done) | (simp [go_sem, ha64i]; done) | (simp [execOp, go_sem, ha64i]; done)) ?_
                                simp only [Act.put, List.setIfInBounds_toArray, List.set_cons_succ, List.set_cons_zero]
                                refine WG.cell rfl 29 _ rfl rfl c2a (fun w h => by simp [go_sem, h]) ?_
                                simp only [Act.put, List.setIfInBounds_toArray, List.set_cons_succ, List.set_cons_zero]
                                refine WG.put rfl (v := .int .i64 (b : Int)) (fun w => by first | rfl | (go_simp; done) | (simp [go_sem]; done) | (simp [execOp, go_sem]; done)) ?_
                                simp only [Act.put, List.setIfInBounds_toArray, List.set_cons_succ, List.set_cons_zero]
                                refine WG.put rfl (fun w => exec_cvt rfl rfl (by omega)) ?_
                                simp only [Act.put, List.setIfInBounds_toArray, List.set_cons_succ, List.set_cons_zero]
                                refine WG.put rfl (fun w => exec_shr (X := Xa) rfl rfl rfl hXa hb64) ?_
                                simp only [Act.put, List.setIfInBounds_toArray, List.set_cons_succ, List.set_cons_zero]
                                refine WG.put rfl (v := .int .u64 1) (fun w => (exec_bit (X := Xa) rfl rfl hXa).trans (by rw [va])) ?_
                                simp only [Act.put, List.setIfInBounds_toArray, List.set_cons_succ, List.set_cons_zero]
                                refine WG.put rfl (v := .int .i64 (b : Int)) (fun w => by first | rfl | (go_simp; done) | (simp [go_sem]; done) | (simp [execOp, go_sem]; done)) ?_
                                simp only [Act.put, List.setIfInBounds_toArray, List.set_cons_succ, List.set_cons_zero]
                                refine WG.put rfl (v := .pointer (some ⟨p2, 1, none⟩)) (fun w => by first | rfl | (go_simp; done) | (simp [go_sem]; done) | (simp [execOp, go_sem]; done)) ?_
                                simp only [Act.put, List.setIfInBounds_toArray, List.set_cons_succ, List.set_cons_zero]
                                refine WG.put rfl (v := .pointer (some ⟨p2, 1 + b, none⟩)) (fun w => by first | rfl | (go_simp; done) | (simp [go_sem, hb64i]; done) | (simp [execOp, go_sem, hb64i]; done)) ?_
                                simp only [Act.put, List.setIfInBounds_toArray, List.set_cons_succ, List.set_cons_zero]
                                refine WG.cell rfl 29 _ rfl rfl c2b (fun w h => by simp [go_sem, h]) ?_
                                simp only [Act.put, List.setIfInBounds_toArray, List.set_cons_succ, List.set_cons_zero]
                                refine WG.put rfl (v := .int .i64 (a : Int)) (fun w => by first | rfl | (go_simp; done) | (simp [go_sem]; done) | (simp [execOp, go_sem]; done)) ?_
                                simp only [Act.put, List.setIfInBounds_toArray, List.set_cons_succ, List.set_cons_zero]
                                refine WG.put rfl (fun w => exec_cvt rfl rfl (by omega)) ?_
                                simp only [Act.put, List.setIfInBounds_toArray, List.set_cons_succ, List.set_cons_zero]
                                refine WG.put rfl (fun w => exec_shr (X := Xb) rfl rfl rfl hXb ha64) ?_
                                simp only [Act.put, List.setIfInBounds_toArray, List.set_cons_succ, List.set_cons_zero]
                                refine WG.put rfl (v := .int .u64 0) (fun w => (exec_bit (X := Xb) rfl rfl hXb).trans (by rw [vb])) ?_
                                simp only [Act.put, List.setIfInBounds_toArray, List.set_cons_succ, List.set_cons_zero]
                                refine WG.put rfl (v := .int .u64 1) (fun w => by first | rfl | (go_simp; done) | (simp [go_sem]; done) | (simp [execOp, go_sem]; done)) ?_
                                simp only [Act.put, List.setIfInBounds_toArray, List.set_cons_succ, List.set_cons_zero]
                                refine WG.put rfl (v := .int .u64 1) (fun w => by first | rfl | (go_simp; done) | (simp [go_sem]; done) | (simp [execOp, go_sem]; done)) ?_
                                simp only [Act.put, List.setIfInBounds_toArray, List.set_cons_succ, List.set_cons_zero]
                                refine WG.nil ?_
                                intro w3 B3
                                go_wp2
                                go_meet
                                exact ⟨rfl, Below.then B2.out B3⟩
                        case rest =>
                          obtain ⟨rfl, B3⟩ := hcut
                          clear h1 h1' h2 BBb B2
                          go_upto_region 20 with fail
                          try simp only [Act.put]
                          go_cut [118] from 32 to 151 (fun v wx => v = .bool false ∧ Hid (Below wr.heap.size wr wx))
                          case first =>
                            as_aux_lemma =>
                              cases q with
                              | false =>
                                simp only [show oneV false = 0 from rfl]
                                go_wp2
                                go_meet
                                exact ⟨rfl, B3.out⟩
                              | true =>
                                simp only [show oneV true = 1 from rfl]
                                go_wp2
                                go_meet
                                exact ⟨rfl, B3.out⟩
                          case rest =>
                            obtain ⟨rfl, B4⟩ := hcut
                            clear B3
                            have BBd := Below.then BB.out B4.out
                            have BWd := Below.then BW.out B4.out
                            have HHd : Hid (Below wr.heap.size wr _) := B4.out
                            go_upto_region 22 with fail
                            try simp only [Act.put]
                            go_cut [12] from 32 to 151 (fun v wx => v = .bool (rdB (evA l a) && (CF (max 0 x).toNat).testBit b) ∧ Hid (Below wr.heap.size wr wx))
                            case first =>
                              as_aux_lemma =>
                                have y0 := ((n4.out.grown BBd).cell 0).trans H0.out
                                have y2 := ((n4.out.grown BBd).cell 2).trans H2.out
                                have cx := (BWd.cell (p := ⟨bf, of + a, none⟩) HCX.out.1).trans HCX.out.2
                                have hbe := Nat.lt_of_lt_of_le hbe0 BWd.size
                                have ra := fun j v hv => (BWd.cell (p := ⟨be, oe + a * 5 + j, none⟩) hbe0).trans (HRA.out j v hv)
                                have hra := fun W => read_any (evA l a) W
                                have hrx := HRX.out
                                by_cases hge : 0 ≤ x
                                · have hrt : rdB (evA l a) = true := by rw [hrx]; simpa using hge
                                  simp only [hrt] at hra
                                  obtain ⟨X, rfl⟩ : ∃ X : Nat, x = (X : Int) := ⟨x.toNat, by omega⟩
                                  have hX64i : (X : Int) < 64 := by omega
                                  have hmt : (max 0 (X : Int)).toNat = X := by omega
                                  have hmx : max 0 (X : Int) = (X : Int) := by omega
                                  have c2x := (n2.out.grown BBd).row X (by omega)
                                  have hXx := HCL.out X
                                  obtain ⟨Xx, hXe⟩ : ∃ z, CF X = z := ⟨_, rfl⟩
                                  rw [hXe] at c2x hXx
                                  cases hq : Xx.testBit b with
                                  | false =>
                                    have vx : ((b2 Xx b : Nat) : Int) = 0 := by rw [bit_b2 hq]; rfl
                                    refine grow_region ?_
                                    refine WG.put rfl (v := .pointer (some ⟨bx, 0, none⟩)) (fun w => by first | rfl | (go_simp; done) | (simp [go_sem]; done) | (simp [execOp, go_sem]; done)) ?_
                                    simp only [Act.put, List.setIfInBounds_toArray, List.set_cons_succ, List.set_cons_zero]
                                    refine WG.cell rfl 37 _ rfl rfl y0 (fun w h => by simp [go_sem, h]) ?_
                                    simp only [Act.put, List.setIfInBounds_toArray, List.set_cons_succ, List.set_cons_zero]
                                    refine WG.put rfl (v := .int .i64 (a : Int)) (fun w => by first | rfl | (go_simp; done) | (simp [go_sem]; done) | (simp [execOp, go_sem]; done)) ?_
                                    simp only [Act.put, List.setIfInBounds_toArray, List.set_cons_succ, List.set_cons_zero]
                                    refine WG.put rfl (v := .pointer (some ⟨be, oe + a * 5, none⟩)) (fun w => by first | rfl | (go_simp; done) | (simp [go_sem, hai]; done) | (simp [execOp, go_sem, hai]; done)) ?_
                                    simp only [Act.put, List.setIfInBounds_toArray, List.set_cons_succ, List.set_cons_zero]
                                    refine WG.range rfl 46 _ rfl rfl (evL (evA l a)) hbe ra _ Tryd.underlying46 rfl infoEv ?_
                                    simp only [Act.put, List.setIfInBounds_toArray, List.set_cons_succ, List.set_cons_zero]
                                    refine WG.call rfl (v := .bool true) (fun w' _ => hra w') (fun w => by first | rfl | (go_simp; done) | (simp [go_sem]; done) | (simp [execOp, go_sem]; done)) ?_
                                    simp only [Act.put, List.setIfInBounds_toArray, List.set_cons_succ, List.set_cons_zero]
                                    refine WG.put rfl (v := .bool true) (fun w => by first | rfl | (go_simp; done) | (simp [go_sem]; done) | (simp [execOp, go_sem]; done)) ?_
                                    simp only [Act.put, List.setIfInBounds_toArray, List.set_cons_succ, List.set_cons_zero]
                                    refine WG.put rfl (v := .pointer (some ⟨bx, 2, none⟩)) (fun w => by first | rfl | (go_simp; done) | (simp [go_sem]; done) | (simp [execOp, go_sem]; done)) ?_
                                    simp only [Act.put, List.setIfInBounds_toArray, List.set_cons_succ, List.set_cons_zero]
                                    refine WG.cell rfl 48 _ rfl rfl y2 (fun w h => by simp [go_sem, h]) ?_
                                    simp only [Act.put, List.setIfInBounds_toArray, List.set_cons_succ, List.set_cons_zero]
                                    refine WG.put rfl (v := .int .i64 (a : Int)) (fun w => by first | rfl | (go_simp; done) | (simp [go_sem]; done) | (simp [execOp, go_sem]; done)) ?_
                                    simp only [Act.put, List.setIfInBounds_toArray, List.set_cons_succ, List.set_cons_zero]
                                    refine WG.put rfl (v := .pointer (some ⟨bf, of + a, none⟩)) (fun w => by first | rfl | (go_simp; done) | (simp [go_sem, hai]; done) | (simp [execOp, go_sem, hai]; done)) ?_
                                    simp only [Act.put, List.setIfInBounds_toArray, List.set_cons_succ, List.set_cons_zero]
                                    refine WG.cell rfl 3 _ rfl rfl cx (fun w h => by simp [go_sem, h]) ?_
                                    simp only [Act.put, List.setIfInBounds_toArray, List.set_cons_succ, List.set_cons_zero]
                                    refine WG.put rfl (v := .int .i64 (X : Int)) (fun w => by first | rfl | (go_simp; done) | (simp [go_sem, hmx]; done) | (simp [execOp, go_sem, hmx]; done)) ?_
                                    simp only [Act.put, List.setIfInBounds_toArray, List.set_cons_succ, List.set_cons_zero]
                                    refine WG.put rfl (v := .pointer (some ⟨p2, 1, none⟩)) (fun w => by first | rfl | (go_simp; done) | (simp [go_sem]; done) | (simp [execOp, go_sem]; done)) ?_
                                    simp only [Act.put, List.setIfInBounds_toArray, List.set_cons_succ, List.set_cons_zero]
                                    refine WG.put rfl (v := .pointer (some ⟨p2, 1 + X, none⟩)) (fun w => by first | rfl | (go_simp; done) | (simp [go_sem, hX64i]; done) | (simp [execOp, go_sem, hX64i]; done)) ?_
                                    simp only [Act.put, List.setIfInBounds_toArray, List.set_cons_succ, List.set_cons_zero]
                                    refine WG.cell rfl 29 _ rfl rfl c2x (fun w h => by simp [go_sem, h]) ?_
                                    simp only [Act.put, List.setIfInBounds_toArray, List.set_cons_succ, List.set_cons_zero]
                                    refine WG.put rfl (v := .int .i64 (b : Int)) (fun w => by first | rfl | (go_simp; done) | (simp [go_sem]; done) | (simp [execOp, go_sem]; done)) ?_
                                    simp only [Act.put, List.setIfInBounds_toArray, List.set_cons_succ, List.set_cons_zero]
                                    refine WG.put rfl (fun w => exec_cvt rfl rfl (by omega)) ?_
                                    simp only [Act.put, List.setIfInBounds_toArray, List.set_cons_succ, List.set_cons_zero]
                                    refine WG.put rfl (fun w => exec_shr (X := Xx) rfl rfl rfl hXx hb64) ?_
                                    simp only [Act.put, List.setIfInBounds_toArray, List.set_cons_succ, List.set_cons_zero]
                                    refine WG.put rfl (v := .int .u64 0) (fun w => (exec_bit (X := Xx) rfl rfl hXx).trans (by rw [vx])) ?_
                                    simp only [Act.put, List.setIfInBounds_toArray, List.set_cons_succ, List.set_cons_zero]
                                    refine WG.put rfl (v := .bool false) (fun w => by first | rfl | (go_simp; done) | (simp [go_sem]; done) | (simp [execOp, go_sem]; done)) ?_
                                    simp only [Act.put, List.setIfInBounds_toArray, List.set_cons_succ, List.set_cons_zero]
                                    refine WG.put rfl (v := .bool false) (fun w => by first | rfl | (go_simp; done) | (simp [go_sem]; done) | (simp [execOp, go_sem]; done)) ?_
                                    simp only [Act.put, List.setIfInBounds_toArray, List.set_cons_succ, List.set_cons_zero]
                                    refine WG.put rfl (v := .bool false) (fun w => by first | rfl | (go_simp; done) | (simp [go_sem]; done) | (simp [execOp, go_sem]; done)) ?_
                                    simp only [Act.put, List.setIfInBounds_toArray, List.set_cons_succ, List.set_cons_zero]
                                    refine WG.nil ?_
                                    intro w5 B5
                                    go_wp2
                                    go_meet
                                    exact ⟨by rw [hrt, hmt, hXe, hq]; rfl, Below.then HHd.out B5⟩
                                  | true =>
                                    have vx : ((b2 Xx b : Nat) : Int) = 1 := by rw [bit_b2 hq]; rfl
                                    refine grow_region ?_
                                    refine WG.put rfl (v := .pointer (some ⟨bx, 0, none⟩)) (fun w => by first | rfl | (go_simp; done) | (simp [go_sem]; done) | (simp [execOp, go_sem]; done)) ?_
                                    simp only [Act.put, List.setIfInBounds_toArray, List.set_cons_succ, List.set_cons_zero]
                                    refine WG.cell rfl 37 _ rfl rfl y0 (fun w h => by simp [go_sem, h]) ?_
                                    simp only [Act.put, List.setIfInBounds_toArray, List.set_cons_succ, List.set_cons_zero]
                                    refine WG.put rfl (v := .int .i64 (a : Int)) (fun w => by first | rfl | (go_simp; done) | (simp [go_sem]; done) | (simp [execOp, go_sem]; done)) ?_
                                    simp only [Act.put, List.setIfInBounds_toArray, List.set_cons_succ, List.set_cons_zero]
                                    refine WG.put rfl (v := .pointer (some ⟨be, oe + a * 5, none⟩)) (fun w => by first | rfl | (go_simp; done) | (simp [go_sem, hai]; done) | (simp [execOp, go_sem, hai]; done)) ?_
                                    simp only [Act.put, List.setIfInBounds_toArray, List.set_cons_succ, List.set_cons_zero]
                                    refine WG.range rfl 46 _ rfl rfl (evL (evA l a)) hbe ra _ Tryd.underlying46 rfl infoEv ?_
                                    simp only [Act.put, List.setIfInBounds_toArray, List.set_cons_succ, List.set_cons_zero]
                                    refine WG.call rfl (v := .bool true) (fun w' _ => hra w') (fun w => by first | rfl | (go_simp; done) | (simp [go_sem]; done) | (simp [execOp, go_sem]; done)) ?_
                                    simp only [Act.put, List.setIfInBounds_toArray, List.set_cons_succ, List.set_cons_zero]
                                    refine WG.put rfl (v := .bool true) (fun w => by first | rfl | (go_simp; done) | (simp [go_sem]; done) | (simp [execOp, go_sem]; done)) ?_
                                    simp only [Act.put, List.setIfInBounds_toArray, List.set_cons_succ, List.set_cons_zero]
                                    refine WG.put rfl (v := .pointer (some ⟨bx, 2, none⟩)) (fun w => by first | rfl | (go_simp; done) | (simp [go_sem]; done) | (simp [execOp, go_sem]; done)) ?_
                                    simp only [Act.put, List.setIfInBounds_toArray, List.set_cons_succ, List.set_cons_zero]
                                    refine WG.cell rfl 48 _ rfl rfl y2 (fun w h => by simp [go_sem, h]) ?_
                                    simp only [Act.put, List.setIfInBounds_toArray, List.set_cons_succ, List.set_cons_zero]
                                    refine WG.put rfl (v := .int .i64 (a : Int)) (fun w => by first | rfl | (go_simp; done) | (simp [go_sem]; done) | (simp [execOp, go_sem]; done)) ?_
                                    simp only [Act.put, List.setIfInBounds_toArray, List.set_cons_succ, List.set_cons_zero]
                                    refine WG.put rfl (v := .pointer (some ⟨bf, of + a, none⟩)) (fun w => by first | rfl | (go_simp; done) | (simp [go_sem, hai]; done) | (simp [execOp, go_sem, hai]; done)) ?_
                                    simp only [Act.put, List.setIfInBounds_toArray, List.set_cons_succ, List.set_cons_zero]
                                    refine WG.cell rfl 3 _ rfl rfl cx (fun w h => by simp [go_sem, h]) ?_
                                    simp only [Act.put, List.setIfInBounds_toArray, List.set_cons_succ, List.set_cons_zero]
                                    refine WG.put rfl (v := .int .i64 (X : Int)) (fun w => by first | rfl | (go_simp; done) | (simp [go_sem, hmx]; done) | (simp [execOp, go_sem, hmx]; done)) ?_
                                    simp only [Act.put, List.setIfInBounds_toArray, List.set_cons_succ, List.set_cons_zero]
                                    refine WG.put rfl (v := .pointer (some ⟨p2, 1, none⟩)) (fun w => by first | rfl | (go_simp; done) | (simp [go_sem]; done) | (simp [execOp, go_sem]; done)) ?_
                                    simp only [Act.put, List.setIfInBounds_toArray, List.set_cons_succ, List.set_cons_zero]
                                    refine WG.put rfl (v := .pointer (some ⟨p2, 1 + X, none⟩)) (fun w => by first | rfl | (go_simp; done) | (simp [go_sem, hX64i]; done) | (simp [execOp, go_sem, hX64i]; done)) ?_
                                    simp only [Act.put, List.setIfInBounds_toArray, List.set_cons_succ, List.set_cons_zero]
                                    refine WG.cell rfl 29 _ rfl rfl c2x (fun w h => by simp [go_sem, h]) ?_
                                    simp only [Act.put, List.setIfInBounds_toArray, List.set_cons_succ, List.set_cons_zero]
                                    refine WG.put rfl (v := .int .i64 (b : Int)) (fun w => by first | rfl | (go_simp; done) | (simp [go_sem]; done) | (simp [execOp, go_sem]; done)) ?_
                                    simp only [Act.put, List.setIfInBounds_toArray, List.set_cons_succ, List.set_cons_zero]
                                    refine WG.put rfl (fun w => exec_cvt rfl rfl (by omega)) ?_
                                    simp only [Act.put, List.setIfInBounds_toArray, List.set_cons_succ, List.set_cons_zero]
                                    refine WG.put rfl (fun w => exec_shr (X := Xx) rfl rfl rfl hXx hb64) ?_
                                    simp only [Act.put, List.setIfInBounds_toArray, List.set_cons_succ, List.set_cons_zero]
                                    refine WG.put rfl (v := .int .u64 1) (fun w => (exec_bit (X := Xx) rfl rfl hXx).trans (by rw [vx])) ?_
                                    simp only [Act.put, List.setIfInBounds_toArray, List.set_cons_succ, List.set_cons_zero]
                                    refine WG.put rfl (v := .bool true) (fun w => by first | rfl | (go_simp; done) | (simp [go_sem]; done) | (simp [execOp, go_sem]; done)) ?_
                                    simp only [Act.put, List.setIfInBounds_toArray, List.set_cons_succ, List.set_cons_zero]
                                    refine WG.put rfl (v := .bool true) (fun w => by first | rfl | (go_simp; done) | (simp [go_sem]; done) | (simp [execOp, go_sem]; done)) ?_
                                    simp only [Act.put, List.setIfInBounds_toArray, List.set_cons_succ, List.set_cons_zero]
                                    refine WG.put rfl (v := .bool true) (fun w => by first | rfl | (go_simp; done) | (simp [go_sem]; done) | (simp [execOp, go_sem]; done)) ?_
                                    simp only [Act.put, List.setIfInBounds_toArray, List.set_cons_succ, List.set_cons_zero]
                                    refine WG.nil ?_
                                    intro w5 B5
                                    go_wp2
                                    go_meet
                                    exact ⟨by rw [hrt, hmt, hXe, hq]; rfl, Below.then HHd.out B5⟩
                                · have hrf : rdB (evA l a) = false := by rw [hrx]; simpa using hge
                                  simp only [hrf] at hra
                                  refine grow_region ?_
                                  refine WG.put rfl (v := .pointer (some ⟨bx, 0, none⟩)) (fun w => by first | rfl | (go_simp; done) | (simp [go_sem]; done) | (simp [execOp, go_sem]; done)) ?_
                                  simp only [Act.put, List.setIfInBounds_toArray, List.set_cons_succ, List.set_cons_zero]
                                  refine WG.cell rfl 37 _ rfl rfl y0 (fun w h => by simp [go_sem, h]) ?_
                                  simp only [Act.put, List.setIfInBounds_toArray, List.set_cons_succ, List.set_cons_zero]
                                  refine WG.put rfl (v := .int .i64 (a : Int)) (fun w => by first | rfl | (go_simp; done) | (simp [go_sem]; done) | (simp [execOp, go_sem]; done)) ?_
                                  simp only [Act.put, List.setIfInBounds_toArray, List.set_cons_succ, List.set_cons_zero]
                                  refine WG.put rfl (v := .pointer (some ⟨be, oe + a * 5, none⟩)) (fun w => by first | rfl | (go_simp; done) | (simp [go_sem, hai]; done) | (simp [execOp, go_sem, hai]; done)) ?_
                                  simp only [Act.put, List.setIfInBounds_toArray, List.set_cons_succ, List.set_cons_zero]
                                  refine WG.range rfl 46 _ rfl rfl (evL (evA l a)) hbe ra _ Tryd.underlying46 rfl infoEv ?_
                                  simp only [Act.put, List.setIfInBounds_toArray, List.set_cons_succ, List.set_cons_zero]
                                  refine WG.call rfl (v := .bool false) (fun w' _ => hra w') (fun w => by first | rfl | (go_simp; done) | (simp [go_sem]; done) | (simp [execOp, go_sem]; done)) ?_
                                  simp only [Act.put, List.setIfInBounds_toArray, List.set_cons_succ, List.set_cons_zero]
                                  refine WG.put rfl (v := .bool false) (fun w => by first | rfl | (go_simp; done) | (simp [go_sem]; done) | (simp [execOp, go_sem]; done)) ?_
                                  simp only [Act.put, List.setIfInBounds_toArray, List.set_cons_succ, List.set_cons_zero]
                                  refine WG.skip rfl ?_
                                  simp only [Act.put, List.setIfInBounds_toArray, List.set_cons_succ, List.set_cons_zero]
                                  refine WG.skip rfl ?_
                                  simp only [Act.put, List.setIfInBounds_toArray, List.set_cons_succ, List.set_cons_zero]
                                  refine WG.skip rfl ?_
                                  simp only [Act.put, List.setIfInBounds_toArray, List.set_cons_succ, List.set_cons_zero]
                                  refine WG.skip rfl ?_
                                  simp only [Act.put, List.setIfInBounds_toArray, List.set_cons_succ, List.set_cons_zero]
                                  refine WG.skip rfl ?_
                                  simp only [Act.put, List.setIfInBounds_toArray, List.set_cons_succ, List.set_cons_zero]
                                  refine WG.skip rfl ?_
                                  simp only [Act.put, List.setIfInBounds_toArray, List.set_cons_succ, List.set_cons_zero]
                                  refine WG.skip rfl ?_
                                  simp only [Act.put, List.setIfInBounds_toArray, List.set_cons_succ, List.set_cons_zero]
                                  refine WG.skip rfl ?_
                                  simp only [Act.put, List.setIfInBounds_toArray, List.set_cons_succ, List.set_cons_zero]
                                  refine WG.skip rfl ?_
                                  simp only [Act.put, List.setIfInBounds_toArray, List.set_cons_succ, List.set_cons_zero]
                                  refine WG.skip rfl ?_
                                  simp only [Act.put, List.setIfInBounds_toArray, List.set_cons_succ, List.set_cons_zero]
                                  refine WG.skip rfl ?_
                                  simp only [Act.put, List.setIfInBounds_toArray, List.set_cons_succ, List.set_cons_zero]
                                  refine WG.skip rfl ?_
                                  simp only [Act.put, List.setIfInBounds_toArray, List.set_cons_succ, List.set_cons_zero]
                                  refine WG.skip rfl ?_
                                  simp only [Act.put, List.setIfInBounds_toArray, List.set_cons_succ, List.set_cons_zero]
                                  refine WG.skip rfl ?_
                                  simp only [Act.put, List.setIfInBounds_toArray, List.set_cons_succ, List.set_cons_zero]
                                  refine WG.put rfl (v := .bool false) (fun w => by first | rfl | (go_simp; done) | (simp [go_sem]; done) | (simp [execOp, go_sem]; done)) ?_
                                  simp only [Act.put, List.setIfInBounds_toArray, List.set_cons_succ, List.set_cons_zero]
                                  refine WG.put rfl (v := .bool false) (fun w => by first | rfl | (go_simp; done) | (simp [go_sem]; done) | (simp [execOp, go_sem]; done)) ?_
                                  simp only [Act.put, List.setIfInBounds_toArray, List.set_cons_succ, List.set_cons_zero]
                                  refine WG.nil ?_
                                  intro w5 B5
                                  go_wp2
                                  go_meet
                                  exact ⟨by rw [hrf]; rfl, Below.then HHd.out B5⟩
                            case rest =>
                              obtain ⟨rfl, B5⟩ := hcut
                              clear BBd BWd HHd B4
                              have hz := HHZ.out b hlt2
                              generalize (rdB (evA l a) && (CF (max 0 x).toNat).testBit b) = q2 at *
                              have BBe := Below.then BB.out B5.out
                              go_upto_region 23 with fail
                              try simp only [Act.put]
                              go_cut [151] from 32 to 151 (fun v wx => v = .bool false ∧ Hid (Below wr.heap.size wr wx))
                              case first =>
                                as_aux_lemma =>
                                  have c3 := (n3.out.grown BBe).row a ha64
                                  have hX3 := HZL.out a
                                  generalize ZF a = X3 at c3 hX3 hz
                                  cases q2 with
                                  | false =>
                                    have v3 : ((b2 X3 b : Nat) : Int) = 0 := by rw [bit_b2 hz]; rfl
                                    refine grow_region ?_
                                    refine WG.put rfl (v := .int .i64 (a : Int)) (fun w => by first | rfl | (go_simp; done) | (simp [go_sem]; done) | (simp [execOp, go_sem]; done)) ?_
                                    simp only [Act.put, List.setIfInBounds_toArray, List.set_cons_succ, List.set_cons_zero]
                                    refine WG.put rfl (v := .pointer (some ⟨p3, 1, none⟩)) (fun w => by first | rfl | (go_simp; done) | (simp [go_sem]; done) | (simp [execOp, go_sem]; done)) ?_
                                    simp only [Act.put, List.setIfInBounds_toArray, List.set_cons_succ, List.set_cons_zero]
                                    refine WG.put rfl (v := .pointer (some ⟨p3, 1 + a, none⟩)) (fun w => by first | rfl | (go_simp; done) | (simp [go_sem, ha64i]; done) | (simp [execOp, go_sem, ha64i]; done)) ?_
                                    simp only [Act.put, List.setIfInBounds_toArray, List.set_cons_succ, List.set_cons_zero]
                                    refine WG.cell rfl 29 _ rfl rfl c3 (fun w h => by simp [go_sem, h]) ?_
                                    simp only [Act.put, List.setIfInBounds_toArray, List.set_cons_succ, List.set_cons_zero]
                                    refine WG.put rfl (v := .int .i64 (b : Int)) (fun w => by first | rfl | (go_simp; done) | (simp [go_sem]; done) | (simp [execOp, go_sem]; done)) ?_
                                    simp only [Act.put, List.setIfInBounds_toArray, List.set_cons_succ, List.set_cons_zero]
                                    refine WG.put rfl (fun w => exec_cvt rfl rfl (by omega)) ?_
                                    simp only [Act.put, List.setIfInBounds_toArray, List.set_cons_succ, List.set_cons_zero]
                                    refine WG.put rfl (fun w => exec_shr (X := X3) rfl rfl rfl hX3 hb64) ?_
                                    simp only [Act.put, List.setIfInBounds_toArray, List.set_cons_succ, List.set_cons_zero]
                                    refine WG.put rfl (v := .int .u64 0) (fun w => (exec_bit (X := X3) rfl rfl hX3).trans (by rw [v3])) ?_
                                    simp only [Act.put, List.setIfInBounds_toArray, List.set_cons_succ, List.set_cons_zero]
                                    refine WG.put rfl (v := .bool false) (fun w => by first | rfl | (go_simp; done) | (simp [go_sem]; done) | (simp [execOp, go_sem]; done)) ?_
                                    simp only [Act.put, List.setIfInBounds_toArray, List.set_cons_succ, List.set_cons_zero]
                                    refine WG.put rfl (v := .bool false) (fun w => by first | rfl | (go_simp; done) | (simp [go_sem]; done) | (simp [execOp, go_sem]; done)) ?_
                                    simp only [Act.put, List.setIfInBounds_toArray, List.set_cons_succ, List.set_cons_zero]
                                    refine WG.put rfl (v := .bool false) (fun w => by first | rfl | (go_simp; done) | (simp [go_sem]; done) | (simp [execOp, go_sem]; done)) ?_
                                    simp only [Act.put, List.setIfInBounds_toArray, List.set_cons_succ, List.set_cons_zero]
                                    refine WG.nil ?_
                                    intro w6 B6
                                    go_wp2
                                    go_meet
                                    exact ⟨rfl, Below.then B5.out B6⟩
                                  | true =>
                                    have v3 : ((b2 X3 b : Nat) : Int) = 1 := by rw [bit_b2 hz]; rfl
                                    refine grow_region ?_
                                    refine WG.put rfl (v := .int .i64 (a : Int)) (fun w => by first | rfl | (go_simp; done) | (simp [go_sem]; done) | (simp [execOp, go_sem]; done)) ?_
                                    simp only [Act.put, List.setIfInBounds_toArray, List.set_cons_succ, List.set_cons_zero]
                                    refine WG.put rfl (v := .pointer (some ⟨p3, 1, none⟩)) (fun w => by first | rfl | (go_simp; done) | (simp [go_sem]; done) | (simp [execOp, go_sem]; done)) ?_
                                    simp only [Act.put, List.setIfInBounds_toArray, List.set_cons_succ, List.set_cons_zero]
                                    refine WG.put rfl (v := .pointer (some ⟨p3, 1 + a, none⟩)) (fun w => by first | rfl | (go_simp; done) | (simp [go_sem, ha64i]; done) | (simp [execOp, go_sem, ha64i]; done)) ?_
                                    simp only [Act.put, List.setIfInBounds_toArray, List.set_cons_succ, List.set_cons_zero]
                                    refine WG.cell rfl 29 _ rfl rfl c3 (fun w h => by simp [go_sem, h]) ?_
                                    simp only [Act.put, List.setIfInBounds_toArray, List.set_cons_succ, List.set_cons_zero]
                                    refine WG.put rfl (v := .int .i64 (b : Int)) (fun w => by first | rfl | (go_simp; done) | (simp [go_sem]; done) | (simp [execOp, go_sem]; done)) ?_
                                    simp only [Act.put, List.setIfInBounds_toArray, List.set_cons_succ, List.set_cons_zero]
                                    refine WG.put rfl (fun w => exec_cvt rfl rfl (by omega)) ?_
                                    simp only [Act.put, List.setIfInBounds_toArray, List.set_cons_succ, List.set_cons_zero]
                                    refine WG.put rfl (fun w => exec_shr (X := X3) rfl rfl rfl hX3 hb64) ?_
                                    simp only [Act.put, List.setIfInBounds_toArray, List.set_cons_succ, List.set_cons_zero]
                                    refine WG.put rfl (v := .int .u64 1) (fun w => (exec_bit (X := X3) rfl rfl hX3).trans (by rw [v3])) ?_
                                    simp only [Act.put, List.setIfInBounds_toArray, List.set_cons_succ, List.set_cons_zero]
                                    refine WG.put rfl (v := .bool true) (fun w => by first | rfl | (go_simp; done) | (simp [go_sem]; done) | (simp [execOp, go_sem]; done)) ?_
                                    simp only [Act.put, List.setIfInBounds_toArray, List.set_cons_succ, List.set_cons_zero]
                                    refine WG.put rfl (v := .bool true) (fun w => by first | rfl | (go_simp; done) | (simp [go_sem]; done) | (simp [execOp, go_sem]; done)) ?_
                                    simp only [Act.put, List.setIfInBounds_toArray, List.set_cons_succ, List.set_cons_zero]
                                    refine WG.put rfl (v := .bool false) (fun w => by first | rfl | (go_simp; done) | (simp [go_sem]; done) | (simp [execOp, go_sem]; done)) ?_
                                    simp only [Act.put, List.setIfInBounds_toArray, List.set_cons_succ, List.set_cons_zero]
                                    refine WG.nil ?_
                                    intro w6 B6
                                    go_wp2
                                    go_meet
                                    exact ⟨rfl, Below.then B5.out B6⟩
                              case rest =>
                                obtain ⟨rfl, B6⟩ := hcut
                                have HBN : Hid (Below WO.heap.size WO _) := Below.then HBb.out B6.out
                                clear hz BBe B5
                                go_wp2
                                go_roundw
                                case rel => exact ⟨b + 1, by omega, by go_num, rfl, HBN.out⟩
                                case measure => simp [intOf]; omega
                · have e : n = b := by omega
                  subst e
                  have hbi : ¬ ((n : Int) < (n : Int)) := by omega
                  have y0 := ((n4.out.grown BB.out).cell 0).trans H0.out
                  have ra : wr.rangeAt be (oe + a * 5) (evL (evA l a)) := fun j v hv => (BW.out.cell (p := ⟨be, oe + a * 5 + j, none⟩) hbe0).trans (HRA.out j v hv)
                  have hcr := fun W => read_any (evA l a) W
                  have hrx := HRX.out
                  rw [cntX_all hxn]
                  by_cases hge : 0 ≤ x
                  · have hrt : rdB (evA l a) = true := by rw [hrx]; simpa using hge
                    simp only [hrt] at hcr
                    rw [if_pos hge]
                    have s1 : True := trivial
                    have s2 : True := trivial
                    go_wp2_with (first
                      | (clear s1; refine wpList_rangeWG ?_ 46 _ rfl rfl ra _ Tryd.underlying46 rfl infoEv ?_)
                      | (clear s2; go_at_call 19; refine (hcr _).mono ?_; rintro e w5 ⟨rfl, B5⟩; have HBN : Hid (Below W17.heap.size W17 w5) := Below.then BB.out B5))
                    go_roundw
                    case rel => exact ⟨a + 1, by omega, by go_num, HBN.out⟩
                    case measure => simp [intOf]; omega
                  · have hrf : rdB (evA l a) = false := by rw [hrx]; simpa using hge
                    simp only [hrf] at hcr
                    rw [if_neg hge]
                    have s1 : True := trivial
                    have s2 : True := trivial
                    go_wp2_with (first
                      | (clear s1; refine wpList_rangeWG ?_ 46 _ rfl rfl ra _ Tryd.underlying46 rfl infoEv ?_)
                      | (clear s2; go_at_call 19; refine (hcr _).mono ?_; rintro e w5 ⟨rfl, B5⟩; have HBN : Hid (Below W17.heap.size W17 w5) := Below.then BB.out B5))
                    go_roundw
                    case rel => exact ⟨a + 1, by omega, by go_num, HBN.out⟩
                    case measure => simp [intOf]; omega
          · have e : n = a := by omega
            subst e
            have hai : ¬ ((n : Int) < (n : Int)) := by omega
            go_wp2
            go_ret
            exact ⟨rfl, Below.then B17.out HB.out⟩
end Go.Proofs.YtdjlfpkemdiadaaDoor
/- EventOrders: for every execution the law returns true and leaves its argument as it was; the library's tables that the row lists hold what the program's text lays. -/
namespace Go.Proofs.YtdjlfpkemdiadaaDoor
open Go.ChangeShapes Go.WideShapes Go.ChangeAt Go.RowKit M
set_option linter.unusedSimpArgs false
set_option linter.unusedVariables false

theorem tab_of_laidO {W : World} (h : laidMetH Tryd.prog Rows.eventOrdersRow.laid W) : TabAt W := by
  rw [MakeChecks.laidMetH_plain _ _ _ (by kernel_rfl)] at h
  exact tab_of_met (laidMet.tail h)
theorem ten_of_laidO {W : World} (h : laidMetH Tryd.prog Rows.eventOrdersRow.laid W) : Tab10 W := by
  rw [MakeChecks.laidMetH_plain _ _ _ (by kernel_rfl)] at h
  exact ten_of_met (laidMet.tail (laidMet.tail h))
theorem door_metO (os : Os) (args : Array Value) : laidMetH Tryd.prog Rows.eventOrdersRow.laid ((World.doorLaid Tryd.prog 400 os).forCall (fun _ _ => 0) ⟨#[], args, []⟩).memory :=
  laidMetH_of_parts3 (fuel := 8) (laidMet_of_run' 8 (by kernel_rfl) (by kernel_rfl)) (by kernel_rfl) (by kernel_rfl)
set_option maxHeartbeats 800000 in
set_option maxRecDepth 100000 in
theorem eventOrders_lifted (os : Os) (started : os.Started) (H : Type) (enc : TypeId × Value → H) :
    ReturnsInHanded {} Tryd.checked os 4 .any (fun w args => (Rows.eventOrdersSpec.pre enc Tryd.prog Tryd.f4 [] false w args ∧ laidMetH Tryd.prog Rows.eventOrdersRow.laid w) ∧ sizedMet enc Tryd.prog Tryd.f4 (OpenSpec.ofChange Rows.eventOrdersSpec) false w args)
      (Rows.eventOrdersSpec.post enc Tryd.prog Tryd.f4 false true false false) := by
  refine returnsInHanded_of_change_and (C := Tryd.checked) (X := fun w _ => laidMetH Tryd.prog Rows.eventOrdersRow.laid w) (fun _ _ _ hh h => h.of_heap hh) own started (by kernel_rfl) Tryd.func4
    (ChangeSpec.witness_shaped (enc := enc) (C := Tryd.checked) (os := os) (X := fun w _ => laidMetH Tryd.prog Rows.eventOrdersRow.laid w) false (World.doorLaid Tryd.prog 400 os) #[.agg #[.slice none 0 0, .slice none 0 0, .slice none 0 0, .slice none 0 0, .slice none 0 0]] 8 rfl (World.shaped_of_RefB (by kernel_rfl) (by kernel_rfl)) (by kernel_rfl) (by kernel_rfl) (by kernel_rfl) (door_metO os _)) ?_
  intro W base args ds gs before hval0 hW _ hsz0 hL _
  clear hsz0
  have hval : ∀ (j : Nat) t v, Tryd.f4.params[j]? = some t → args[j]? = some v → Value.okWide Tryd.prog W .any base t v := hval0
  have hW' := hW
  obtain ⟨p, q, hA0, hV, rfl, hfz, hnd⟩ := hW
  have hA : DataW.TrodAll enc Tryd.prog W 0 (fun _ => true) true Tryd.f4.params.toList args.toList ds p := hA0
  rw [Tryd.params4] at hA hval
  obtain ⟨v0, vs0, d0, ds0, p0, q0, hargs, rfl, rfl, h0, r0⟩ := trodAll_cons hA
  obtain ⟨rfl, rfl, rfl⟩ := trodAll_nil r0
  obtain rfl : args = #[v0] := by cases args; simp_all
  obtain ⟨rfl, rfl⟩ := trodVars_none hV
  obtain ⟨c0, rfl, _⟩ := okWide_struct Tryd.underlying51 (hval 0 51 v0 rfl rfl)
  have k0 := h0
  have lt0 : ∀ x ∈ p0, x.block < W.heap.size := by obtain ⟨m, hm⟩ := k0; exact DataW.trod_lt m _ _ _ hm
  have hT := tab_of_laidO hL
  have hT10 := ten_of_laidO hL
  have fin : Calls Tryd.prog 4 #[.agg c0] W fun e w' => e = .returned (.bool true) ∧ Below W.heap.size W w' := by
    obtain ⟨f0, g0⟩ := h0
    have e0 : (Value.agg c0).cells.toList = c0.toList := by simp [Value.cells]
    rw [e0] at g0
    obtain ⟨l, fr, od, ae, af, ao, ce, cf, co, hX, h0, h2, h3, hE, hF, hO⟩ := Ex.open_ex _ _ _ g0
    have := eventOrders_any _ ae af ao ce cf co l fr od W hT hT10 hX h0 h2 h3 hE hF hO
    rwa [Array.toArray_toList] at this
  clear hA0 hval0
  refine fin.mono fun e W' ⟨he, bel⟩ => ?_
  subst he
  exact ⟨_, rfl, _, _, _, [], _, [], hW', trodAll_mk1 (shut_bool Tryd.underlying4 _), (trodAll_cons_mk (Below.trod laidOut (by kernel_rfl) (of_decide_eq_true (by kernel_rfl)) k0 bel lt0) trodAll_mk0), rfl, bel.frame _, fun h => by cases h⟩

theorem eventOrders_said : Rows.EventOrdersSaid :=
  OpenClaim.holds_of_wide 4 Tryd.f4 rfl rfl rfl rfl rfl rfl rfl ⟨rfl, rfl, rfl, rfl, rfl⟩ rfl rfl rfl rfl rfl (by kernel_rfl) Tryd.func4 (by kernel_rfl)
    (of_decide_eq_true (by kernel_rfl)) (by unfold Func.isWrapper; first | (rw [if_pos (by decide +kernel)]; kernel_rfl) | (rw [if_neg (by decide +kernel)]; exact ⟨rfl, rfl⟩))
    (fun os started H enc _ => eventOrders_lifted os started H enc)

theorem eventOrders_holds : Rows.EventOrdersCardSaid :=
  Claim7.holds_tied_plain_at .later [] _ _ _ _
    eventOrders_said (fun _ h => by cases h) (by kernel_rfl) (fun _ h => by cases h) eventOrders_row_tie rfl ⟨rfl, rfl⟩ (by kernel_rfl) rfl
    (fun f fn hf hfn => by
      obtain rfl : f = 4 := Option.some.inj ((show Tryd.prog.funcNamed "weir/weirlaw17.EventOrders" = some 4 by kernel_rfl).symm.trans hf) |>.symm
      obtain rfl : fn = Tryd.f4 := (Option.some.inj (Tryd.func4.symm.trans hfn)).symm
      exact ⟨by kernel_rfl, fun j t ht => by
        rw [Tryd.params4] at ht
        have hm : t ∈ [51] := by simpa using Array.mem_of_getElem? ht
        have hall : ([51].all fun u => !Tryd.prog.wantsStandIn u) = true := by kernel_rfl
        exact (show Tryd.prog.wantsStandIn t = false by simpa using List.all_eq_true.1 hall t hm)⟩)
    (by kernel_rfl)
#print axioms eventOrders_holds
#print axioms eventOrders_holds
end Go.Proofs.YtdjlfpkemdiadaaDoor

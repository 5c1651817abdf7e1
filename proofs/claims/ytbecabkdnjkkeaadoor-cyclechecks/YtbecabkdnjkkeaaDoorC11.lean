/- The law CycleChecks. -/
import Derived.Test.YtbecabkdnjkkeaaDoorC10
namespace Go.Proofs.YtbecabkdnjkkeaaDoor
open Go Go.RowKit M
set_option linter.unusedSimpArgs false
set_option linter.unusedVariables false

theorem can_le (L : List ByteArray) : (canS L).length ≤ L.length := by
  unfold canS canN
  split
  · rw [List.length_map]
    cases hb : bst (L.map nuF) L.length with
    | none => exact Nat.zero_le _
    | some b => have := (bst_in _ b hb).1; rw [List.length_map] at this; exact Nat.le_of_eq this
  · exact Nat.zero_le _
theorem can_le16 (L : List ByteArray) : (canS L).length ≤ 16 := by
  by_cases h : (chk L).2 = 0
  · exact Nat.le_trans (can_le L) (chk_zero h).1
  · unfold canS; rw [if_neg h]; exact Nat.zero_le _
theorem seg_grown {w W W' : World} {a : Option Addr} {cs : List Value} {r : Option Nat} (h : Seg w a cs) (hB : Below w.heap.size w W) (hg : W.grownBy W' r) (hr : ∀ k, r = some k → w.heap.size ≤ k) : Seg W' a cs := fun j v hv => by
  obtain ⟨b, o, e, h2, h3⟩ := h j v hv
  refine ⟨b, o, e, Nat.lt_of_lt_of_le h2 (Nat.le_trans hB.size hg.size), ?_⟩
  exact hg.cell ((hB.cell (p := ⟨b, o + j, none⟩) h2).trans h3) (fun e => by have := hr _ e.symm; simp at this; omega)
theorem own_grownX {w W : World} {B t s n : Nat} {v : Value} {xs : List Value} {r : Option Nat} (h : w.ownsRow B t s v n xs) (hg : w.grownBy W r) (hr : ∀ k, v.ownBlock = some k → r ≠ some k) : W.ownsRow B t s v n xs :=
  own_same h fun k hk => hg.block k (h.lt k hk).2 (fun e => hr k hk e.symm)
/-- What stays where the first answer is spoilt. -/
theorem after {w W1 W2 W3 W4 W5 W8 W9 : World} {a a3 a4 a5 : Option Addr} {g m c3 c4 c5 : Nat} {L X : List ByteArray} (hS : Seg w a (L.flatMap strE)) (B1 : Below w.heap.size w W1) (B2 : Below W1.heap.size W1 W2) (B3 : Below W2.heap.size W2 W3) (B4 : Below W3.heap.size W3 W4) (L1 : Lnt W1 g L)
    (O3 : W3.ownsRow W2.heap.size 9 1 (.slice a3 m c3) m (X.flatMap strE)) (O4 : W4.ownsRow W3.heap.size 9 1 (.slice a4 m c4) m (X.flatMap strE)) (O5 : W5.ownsRow W4.heap.size 9 1 (.slice a5 m c5) m (X.flatMap strE))
    (T3 : W8.ownsRow W2.heap.size 9 1 (.slice a3 m c3) m (X.flatMap strE)) (S4 : W8.ownsRow W3.heap.size 9 1 (.slice a4 m c4) m (X.flatMap strE)) (R5 : W8.ownsRow W4.heap.size 9 1 (.slice a5 m c5) m (X.flatMap strE)) (L8 : Lnt W8 g L) (B08 : Below w.heap.size w W8) (G9 : W8.grownBy W9 (Value.slice a3 m c3).ownBlock) :
    Seg W9 a (L.flatMap strE) ∧ W9.ownsRow W3.heap.size 9 1 (.slice a4 m c4) m (X.flatMap strE) ∧ W9.ownsRow W4.heap.size 9 1 (.slice a5 m c5) m (X.flatMap strE) ∧ Lnt W9 g L ∧ Below w.heap.size w W9 := by
  have z1 := B1.size
  have z2 := B2.size
  have z3 := B3.size
  have z4 := B4.size
  have hk : ∀ k, (Value.slice a3 m c3).ownBlock = some k → W2.heap.size ≤ k ∧ k < W3.heap.size := fun k h => O3.lt k h
  refine ⟨seg_grown hS B08 G9 (fun k h => by have := hk k h; omega), own_grownX S4 G9 (fun k h e => ?_), own_grownX R5 G9 (fun k h e => ?_), L8.grown G9 (fun e => ?_), grown_below B08 B08.size (own_raise T3 (by omega)) G9⟩
  · have h1 := hk k e; have h2 := O4.lt k h; omega
  · have h1 := hk k e; have h2 := O5.lt k h; omega
  · have h1 := hk g e; have h2 := L1.1; omega
set_option maxRecDepth 100000 in
set_option maxHeartbeats 8000000 in
theorem cycleChecks_any (L : List ByteArray) (n c : Nat) (a : Option Addr) (hl : L.length = n) (hn : n ≤ 8796093021952) (hz : a = none → c = 0) (hc : n ≤ c) (w : World) (hE : EdAt w) (hN : NmAt w) (hS : Seg w a (L.flatMap strE)) :
    Calls Tryd.prog 3 #[.slice a n c] w fun e w' => e = .returned (.bool true) ∧ Below w.heap.size w w' := by
  have hLe := fun W h => lent_any L n c a hl hn hz W h
  have hC1 := fun W (g c' : Nat) h1 h2 => check_any L n c' (some ⟨g, 0, none⟩) hl (by omega) W h1 h2
  have hC2 := fun W h1 h2 => rcheck_any L n c a hl (by omega) W h1 h2
  have hK1 := fun W (g c' : Nat) h1 h2 => canon_any L n c' (some ⟨g, 0, none⟩) hl (by omega) W h1 h2
  have hK2 := fun W h1 h2 => rcanon_any L n c a hl (by omega) hc W h1 h2
  have hB := fun W (g c1 : Nat) hc1 h1 h2 => back_any L n g c1 c a hl hn hc1 W h1 h2
  have hcl := can_le16 L
  unfold CanA at hK1 hK2
  obtain ⟨m, hm⟩ : ∃ m, (canS L).length = m := ⟨_, rfl⟩
  have hm2 : m ≤ 1048576 := by omega
  have hSm := fun W (a1 a2 : Option Addr) (c1 c2 : Nat) h1 h2 => same_any (canS L) m c1 c2 a1 a2 hm (by omega) W h1 h2
  simp only [hm] at hK1 hK2
  have HE : Hid (EdAt w) := hE
  have HN : Hid (NmAt w) := hN
  have HS : Hid (Seg w a (L.flatMap strE)) := hS
  have hii : (((chk L).1 : Int) != ((chk L).1 : Int)) = false := by simp
  have hzz : ((chk L).2 != (chk L).2) = false := by simp
  have num := fun W => num_any (chk L).2 W
  clear hE hN hS hcl hm hl hz
  generalize canS L = X at *
  generalize (chk L).1 = i at *
  generalize (chk L).2 = z at *
  have t1 : True := trivial
  have t2 : True := trivial
  have t3 : True := trivial
  have t4 : True := trivial
  have t5 : True := trivial
  have t6 : True := trivial
  have t7 : True := trivial
  have t8 : True := trivial
  have t9 : True := trivial
  have t10 : True := trivial
  have t11 : True := trivial
  have t12 : True := trivial
  have t13 : True := trivial
  have t14 : True := trivial
  go_enter Tryd.func3, Tryd.ntmps3
  go_wp2_with (first
    | (clear t1; go_at_call 4; refine (hLe _ HS.out).mono ?_; rintro e W1 ⟨g, c1, rfl, hcx, hg1, L1, B1⟩; have hS1 := HS.out.below B1; clear hLe)
    | (clear t2; go_at_call 5; refine (hC1 _ g c1 (HE.out.below B1) L1.seg).mono ?_; rintro e W2 ⟨rfl, B2⟩; have B02 := Below.then B1 B2; have L2 := L1.below B2; clear hC1)
    | (clear t3; go_at_call 6; refine (hC2 _ (HN.out.below B02) (HS.out.below B02)).mono ?_; rintro e' w' ⟨rfl, hw'⟩; replace hw' := hw'.symm; subst hw'; clear hC2)
    | (clear t4; go_at_call 7; refine (hK1 _ g c1 (HE.out.below B02) L2.seg).mono ?_; rintro e W3 ⟨v3, rfl, O3, B3⟩; have B03 := Below.then B02 B3; have L3 := L2.below B3; obtain ⟨a3, c3, rfl⟩ := own_form O3)
    | (clear t5; go_at_call 7; refine (hK1 _ g c1 (HE.out.below B03) L3.seg).mono ?_; rintro e W4 ⟨v4, rfl, O4, B4⟩; have B04 := Below.then B03 B4; have L4 := L3.below B4; have P3 := own_below O3 B4; obtain ⟨a4, c4, rfl⟩ := own_form O4; clear hK1)
    | (clear t6; go_at_call 8; refine (hK2 _ (HN.out.below B04) (HS.out.below B04)).mono ?_; rintro e W5 ⟨v5, rfl, O5, B5⟩; have B05 := Below.then B04 B5; have L5 := L4.below B5; have Q3 := own_below P3 B5; have P4 := own_below O4 B5; obtain ⟨a5, c5, rfl⟩ := own_form O5; clear hK2)
    | (clear t7; go_at_call 9; refine (num _).mono ?_; rintro e' w' ⟨rfl, hw'⟩; replace hw' := hw'.symm; subst hw')
    | (clear t8; go_at_call 10; refine (hSm _ a3 a5 c3 c5 (own_seg Q3) (own_seg O5)).mono ?_; rintro e W6 ⟨rfl, B6⟩; have R3 := own_below Q3 B6; have P5 := own_below O5 B6; have Q4 := own_below P4 B6; have L6 := L5.below B6; have B06 := Below.then B05 B6)
    | (clear t9; go_at_call 10; refine (hSm _ a4 a5 c4 c5 (own_seg Q4) (own_seg P5)).mono ?_; rintro e W7 ⟨rfl, B7⟩; have S3 := own_below R3 B7; have Q5 := own_below P5 B7; have R4 := own_below Q4 B7; have L7 := L6.below B7; have B07 := Below.then B06 B7)
    | (clear t10; go_at_call 9; refine (num _).mono ?_; rintro e' w' ⟨rfl, hw'⟩; replace hw' := hw'.symm; subst hw')
    | (clear t11; go_at_call 11; refine (hB _ g c1 hcx L7 (HS.out.below B07)).mono ?_; rintro e W8 ⟨rfl, B8⟩; have T3 := own_below S3 B8; have R5 := own_below Q5 B8; have S4 := own_below R4 B8; have L8 := L7.below B8; have B08 := Below.then B07 B8)
    | (clear t12; go_at_call 12; refine (spoil_any T3 (Nat.le_trans B3.size (Nat.le_trans B4.size (Nat.le_trans B5.size (Nat.le_trans B6.size (Nat.le_trans B7.size B8.size))))) hm2).mono ?_; rintro e W9 ⟨rfl, G9⟩; obtain ⟨S9, T4, T5, L9, B09⟩ := after HS.out B1 B2 B3 B4 L1 O3 O4 O5 T3 S4 R5 L8 B08 G9)
    | (clear t13; go_at_call 10; refine (hSm _ a4 a5 c4 c5 (own_seg T4) (own_seg T5)).mono ?_; rintro e W10 ⟨rfl, B10⟩; have L10 := L9.below B10; have S10 := S9.below B10; have B010 := Below.then B09 B10)
    | (clear t14; go_at_call 11; refine (hB _ g c1 hcx L10 S10).mono ?_; rintro e W11 ⟨rfl, B11⟩; have HBF : Hid (Below w.heap.size w W11) := Below.then B010 B11))
  go_ret
  exact ⟨rfl, HBF.out⟩
end Go.Proofs.YtbecabkdnjkkeaaDoor

/- The law CondPlains, at any nodes. -/
import Derived.Test.YtjnbhcakfenbhaaL3
import Derived.Test.YtjnbhcakfenbhaaQ2
namespace Go.Proofs.Ytjnbhcakfenbhaa
open Go.RowKit M
set_option linter.unusedSimpArgs false
set_option linter.unusedVariables false

theorem own_step {W W' : World} {B e s n : Nat} {v : Value} {xs : List Value} {r0 r1 : Option Nat} (h : W.ownsRow B e s v n xs) (S : Step none r0 r1 W W') (hne : ∀ g, v.ownBlock = some g → some g ≠ r0) : W'.ownsRow B e s v n xs := by
  refine ⟨h.1, ?_⟩
  rcases h.2 with hn | ⟨g, cap, cur, rfl, hg, hh, rest⟩
  · exact Or.inl hn
  · exact Or.inr ⟨g, cap, cur, rfl, hg, (S.block g (Array.getElem?_eq_some_iff.1 hh).1 (by simp) (hne g rfl)).trans hh, rest⟩
theorem nds_of_own {W : World} {B n : Nat} {a : Option Addr} {c : Nat} {out : List Nd} (h : W.ownsRow B 52 6 (.slice a n c) out.length (cellsL out)) : Nds W a out := by
  obtain ⟨a', c', e, N⟩ := nds_own h
  cases e
  exact N
set_option maxRecDepth 100000 in
set_option maxHeartbeats 2000000 in
theorem plains_any (ad : Option Addr) (cap : Nat) (ns : List Nd) (hs : ∀ n ∈ ns, n.nm.size ≤ maxLen) (hn : ns.length ≤ 1048576) (w : World) (hT : Nds w ad ns) :
    Calls Try.prog 4 #[.slice ad ns.length cap] w fun e w' => e = .returned (.bool true) ∧ Below w.heap.size w w' := by
  obtain ⟨P, hP⟩ : ∃ P, (plainF ns).1 = P := ⟨_, rfl⟩
  obtain ⟨k, hk⟩ : ∃ k, (plainF ns).2 = k := ⟨_, rfl⟩
  have hPl : P.length ≤ 1024 := by
    rw [← hP]
    unfold plainF
    split
    · simp
    · split
      · simp
      · split
        · simp
        · split
          · simp
          · rename_i t _ _ h _
            rw [Tr.nodes_len]; omega
  have cP := fun a c W (h : Nds W a ns) => plain_any a c ns hs (by omega) W h
  have cR := fun a c W (h : Nds W a ns) => rplain_any a c ns hs (by omega) W h
  rw [hP, hk] at cP cR
  have cL := lent_any ad cap ns (by omega) w hT
  have HT : Hid (Nds w ad ns) := hT
  have HLow : Hid (∀ W W', Below w.heap.size W W' → Nds W ad ns → Nds W' ad ns) := fun W W' hB h => by
    by_cases h1 : 1 ≤ ns.length
    · exact h.step hB (nds_low hT h1)
    · intro j n hn
      have := (List.getElem?_eq_some_iff.1 hn).1
      omega
  have hkk : (k != k) = false := by simp
  clear hT hs hP hk
  go_enter Try.func4, Try.ntmps4
  go_wp2_with (first
    | (go_at_call 14; refine (back_any g ad cap ns (by omega) W9 (G8.grown B9) (N8.below B9)).mono ?_; rintro e W10 ⟨rfl, B10⟩)
    | (go_at_call 17; refine (same_any a3 a4 c3 c4 P (by omega) W8 (nds_of_own O38.out) (nds_of_own O48.out)).mono ?_; rintro e W9 ⟨rfl, B9⟩)
    | (go_at_call 18; refine (spoil_any W1.heap.size (.slice a2 P.length c2) P.length (by omega) W7 _ O27.out (by have := B7w.out.size; have := B17.out.size; omega)).mono ?_; rintro e W8 ⟨rfl, row, S8⟩; have O38 : Hid (W8.ownsRow W2.heap.size 52 6 (.slice a3 P.length c3) P.length (cellsL P)) := own_step O37.out S8 (fun g3 e3 e2 => by have := (O3.out.lt g3 e3).1; have := (O2.out.lt g3 e2.symm).2; omega); have O48 : Hid (W8.ownsRow W3.heap.size 52 6 (.slice a4 P.length c4) P.length (cellsL P)) := own_step O47.out S8 (fun g3 e3 e2 => by have := (O4.out.lt g3 e3).1; have := (O2.out.lt g3 e2.symm).2; have := B23.out.size; omega); have B78 : Below w.heap.size W7 W8 := S8.below (by simp) (fun b e => by have := (O2.out.lt b e).1; have := B1.size; omega) B7w.out.size; have G8 : IsS W8 g 52 (cellsL (ns ++ [n77])) := (S8.block g G7.out.lt (by simp) (fun e => by have := (O2.out.lt g e.symm).1; have := G1.lt; omega)).trans G7.out; have N8 : Nds W8 ad ns := HLow.out W7 W8 B78 (HT.out.below B7w.out); have B8w : Hid (Below w.heap.size w W8) := B7w.out.trans B78)
    | (go_at_call 14; refine (back_any g ad cap ns (by omega) W6 G6.out N6.out).mono ?_; rintro e W7 ⟨rfl, B7⟩; have O27 : Hid (W7.ownsRow W1.heap.size 52 6 (.slice a2 P.length c2) P.length (cellsL P)) := own_belowW O26.out B7; have O37 : Hid (W7.ownsRow W2.heap.size 52 6 (.slice a3 P.length c3) P.length (cellsL P)) := own_belowW O36.out B7; have O47 : Hid (W7.ownsRow W3.heap.size 52 6 (.slice a4 P.length c4) P.length (cellsL P)) := own_belowW O46.out B7; have G7 : Hid (IsS W7 g 52 (cellsL (ns ++ [n77]))) := G6.out.grown B7; have B7w : Hid (Below w.heap.size w W7) := B6w.out.trans (B7.mono B6w.out.size); have B17 : Hid (Below W1.heap.size W1 W7) := B16.out.trans (B7.mono B16.out.size))
    | (go_at_call 9; refine (num_any k _).mono ?_; rintro e w' ⟨rfl, hw'⟩; replace hw' := hw'.symm; subst hw')
    | (go_at_call 17; refine (same_any a3 a4 c3 c4 P (by omega) W5 (nds_of_own O35.out) (nds_of_own O45.out)).mono ?_; rintro e W6 ⟨rfl, B6⟩; have O26 : Hid (W6.ownsRow W1.heap.size 52 6 (.slice a2 P.length c2) P.length (cellsL P)) := own_belowW O25.out B6; have O36 : Hid (W6.ownsRow W2.heap.size 52 6 (.slice a3 P.length c3) P.length (cellsL P)) := own_belowW O35.out B6; have O46 : Hid (W6.ownsRow W3.heap.size 52 6 (.slice a4 P.length c4) P.length (cellsL P)) := own_belowW O45.out B6; have B16 : Hid (Below W1.heap.size W1 W6) := B15.out.trans (B6.mono B15.out.size); have B6w : Hid (Below w.heap.size w W6) := B1.trans (B16.out.mono B1.size); have G6 : Hid (IsS W6 g 52 (cellsL (ns ++ [n77]))) := G1.grown B16.out; have N6 : Hid (Nds W6 ad ns) := HT.out.below B6w.out)
    | (go_at_call 17; refine (same_any a2 a4 c2 c4 P (by omega) W4 (nds_of_own O24.out) (nds_of_own O4.out)).mono ?_; rintro e W5 ⟨rfl, B5⟩; have O25 : Hid (W5.ownsRow W1.heap.size 52 6 (.slice a2 P.length c2) P.length (cellsL P)) := own_belowW O24.out B5; have O35 : Hid (W5.ownsRow W2.heap.size 52 6 (.slice a3 P.length c3) P.length (cellsL P)) := own_belowW O34.out B5; have O45 : Hid (W5.ownsRow W3.heap.size 52 6 (.slice a4 P.length c4) P.length (cellsL P)) := own_belowW O4.out B5; have B15 : Hid (Below W1.heap.size W1 W5) := B14.out.trans (B5.mono B14.out.size))
    | (go_at_call 16; refine (cR ad cap W3 (HT.out.below (B1.trans (B13.out.mono B1.size)))).mono ?_; rintro e W4 ⟨⟨v4, rfl, O4x⟩, B4⟩; obtain ⟨a4, c4, rfl, N4⟩ := nds_own O4x; have O4 : Hid (W4.ownsRow W3.heap.size 52 6 (.slice a4 P.length c4) P.length (cellsL P)) := O4x; have O24 : Hid (W4.ownsRow W1.heap.size 52 6 (.slice a2 P.length c2) P.length (cellsL P)) := own_belowW O23.out B4; have O34 : Hid (W4.ownsRow W2.heap.size 52 6 (.slice a3 P.length c3) P.length (cellsL P)) := own_belowW O3.out B4; have B14 : Hid (Below W1.heap.size W1 W4) := B13.out.trans (B4.mono B13.out.size); clear O4x N4)
    | (go_at_call 15; refine (cP (some ⟨g, 0, none⟩) (ns.length + 1) W2 (NG1.below B2)).mono ?_; rintro e W3 ⟨⟨v3, rfl, O3x⟩, B3⟩; obtain ⟨a3, c3, rfl, N3⟩ := nds_own O3x; have O3 : Hid (W3.ownsRow W2.heap.size 52 6 (.slice a3 P.length c3) P.length (cellsL P)) := O3x; have O23 : Hid (W3.ownsRow W1.heap.size 52 6 (.slice a2 P.length c2) P.length (cellsL P)) := own_belowW O2.out B3; have B23 : Hid (Below W2.heap.size W2 W3) := B3; have B13 : Hid (Below W1.heap.size W1 W3) := B2.trans (B3.mono B2.size); clear O3x N3)
    | (go_at_call 15; refine (cP (some ⟨g, 0, none⟩) (ns.length + 1) W1 NG1).mono ?_; rintro e W2 ⟨⟨v2, rfl, O2x⟩, B2⟩; obtain ⟨a2, c2, rfl, N2⟩ := nds_own O2x; have O2 : Hid (W2.ownsRow W1.heap.size 52 6 (.slice a2 P.length c2) P.length (cellsL P)) := O2x; clear O2x N2)
    | (go_at_call 5; refine cL.mono ?_; rintro e W1 ⟨⟨g, rfl, hg, G1⟩, B1⟩; have NG1 : Nds W1 (some ⟨g, 0, none⟩) ns := nds_of_isS (more := ndL n77) (by rw [← cellsL_snoc]; exact G1)))
  go_ret
  exact ⟨rfl, B8w.out.trans ((Below.then B9 B10).mono B8w.out.size)⟩
end Go.Proofs.Ytjnbhcakfenbhaa

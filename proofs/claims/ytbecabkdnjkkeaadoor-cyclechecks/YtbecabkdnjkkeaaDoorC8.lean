/- Of the reference: Check. -/
import Derived.Test.YtbecabkdnjkkeaaDoorC7
namespace Go.Proofs.YtbecabkdnjkkeaaDoor
open Go Go.RowKit M
set_option linter.unusedSimpArgs false
set_option linter.unusedVariables false

theorem by_ne {a b : Int} (ha : a = 0 ∨ a = 1) (hb : b = 0 ∨ b = 1) : (byF a != byF b) = !(a == b) := by
  rcases ha with rfl | rfl <;> rcases hb with rfl | rfl <;> rfl
set_option maxRecDepth 100000 in
set_option maxHeartbeats 8000000 in
theorem rcheck_any (L : List ByteArray) (n c : Nat) (a : Option Addr) (hl : L.length = n) (hn : n ≤ 8796093022208) (w : World) (hN : NmAt w) (hS : Seg w a (L.flatMap strE)) :
    Calls Tryd.prog 6 #[.slice a n c] w fun e w' => e = .returned (.tuple #[.int .i64 ((chk L).1 : Int), .int .i64 (chk L).2]) ∧ w' = w := by
  obtain ⟨A, hA⟩ : ∃ A : Ending → World → Prop, (fun e w' => e = .returned (.tuple #[.int .i64 ((chk L).1 : Int), .int .i64 (chk L).2]) ∧ w' = w) = A := ⟨_, rfl⟩
  have HA : Hid (∀ (i : Nat) (z : Int), chk L = (i, z) → A (.returned (.tuple #[.int .i64 (i : Int), .int .i64 z])) w) := by
    rw [← hA]; intro i z h; exact ⟨by rw [h], rfl⟩
  rw [hA]
  have HC : Hid (∀ s : ByteArray, Calls Tryd.prog 14 #[.string s] w fun e w' => e = .returned (.int .i64 (nuI s)) ∧ w' = w) := fun s => number_any s w hN
  have HL : Hid (L.length = n) := hl
  have HS : Hid (Seg w a (L.flatMap strE)) := hS
  clear hA hN hS hl
  by_cases h16 : 16 < n
  · have h16I : (16 : Int) < n := by omega
    have HK := chk_long (L := L) (by rw [HL.out]; exact h16)
    clear HC
    go_enter Tryd.func6, Tryd.ntmps6
    go_wp2
    exact HA.out 0 1 HK
  · have h16I : (n : Int) ≤ 16 := by omega
    have h16N : n ≤ 16 := by omega
    have HK0 : Hid (∀ q, badN L = q → q < n → chk L = (q, 260)) := fun q h1 h2 => by
      have := chk_bad (L := L) (by rw [HL.out]; exact h16N) (by rw [h1, HL.out]; exact h2)
      rw [h1] at this; exact this
    have HK1 : Hid (badN L = n → ∀ q, misN (L.map nuF) = q → q < n → chk L = (q, 260)) := fun h0 q h1 h2 => by
      have := chk_mis (L := L) (by rw [HL.out]; exact h16N) (by rw [h0, HL.out]) (by rw [h1, HL.out]; exact h2)
      rw [h1] at this; exact this
    have HK2 : Hid (badN L = n → misN (L.map nuF) = n → (n < 2 ∨ cntF outF (L.map nuF) < 2 ∨ cntF awF (L.map nuF) < 2) → chk L = (0, 260)) := fun h0 h1 h2 =>
      chk_few (by rw [HL.out]; exact h16N) (by rw [h0, HL.out]) (by rw [h1, HL.out]) (by rw [HL.out]; exact h2)
    have HK3 : Hid (badN L = n → misN (L.map nuF) = n → ¬ (n < 2 ∨ cntF outF (L.map nuF) < 2 ∨ cntF awF (L.map nuF) < 2) → chk L = (0, 0)) := fun h0 h1 h2 =>
      chk_ok (by rw [HL.out]; exact h16N) (by rw [h0, HL.out]) (by rw [h1, HL.out]) (by rw [HL.out]; exact h2)
    clear h16
    go_enter Tryd.func6, Tryd.ntmps6
    go_wp2
    go_loop [4] (fun i => ∃ k : Nat, k ≤ n ∧ i = .int .i64 (k : Int) ∧ Hid (FstAt (badP L) n k)) (fun i => n - (intOf i).toNat)
    case atStart => exact ⟨0, Nat.zero_le _, rfl, FstAt.zero _ _⟩
    case round =>
      obtain ⟨k, hk, rfl, HF⟩ := hrel
      by_cases hlt : k < n
      · have hki : (k : Int) < n := by omega
        obtain ⟨s, hs⟩ : ∃ s, L[k]? = some s := ⟨_, List.getElem?_eq_getElem (by rw [HL.out]; exact hlt)⟩
        obtain ⟨b1, o1, rfl, hb1, hc⟩ := seg_cell HS.out (str_at hs)
        have q := HC.out s
        by_cases hq : nuF s < 18
        · have HN : Hid (FstAt (badP L) n (k + 1)) := HF.out.next hlt (bad_miss hs hq)
          rw [nuI_yes rfl hq] at q
          clear hs hq HC HF
          generalize nuF s = u at *
          go_wp2_with (first
            | (go_at_call 14; refine q.mono ?_; rintro e' w' ⟨rfl, hw'⟩; replace hw' := hw'.symm; subst hw'))
          go_round
          case rel => exact ⟨k + 1, by omega, by go_num, HN⟩
          case measure => simp [intOf]; omega
        · have h18 : nuF s = 18 := Nat.le_antisymm (nu_le s) (by omega)
          have HN : Hid (badN L = k) := by
            show fst' _ _ _ = _; rw [HL.out]; exact HF.out.hit hlt (bad_hit hs h18)
          rw [nuI_no h18] at q
          clear hs hq HC HF h18
          go_wp2_with (first
            | (go_at_call 14; refine q.mono ?_; rintro e' w' ⟨rfl, hw'⟩; replace hw' := hw'.symm; subst hw'))
          exact HA.out k 260 (HK0.out k HN.out hlt)
      · have e : k = n := by omega
        subst e
        have hbn : badN L = k := by
          show fst' _ _ _ = _; rw [HL.out]; exact HF.out.done (Nat.le_refl _)
        have HG : Hid (∀ s ∈ L, nuF s < 18) := all_good (by rw [HL.out]; exact hbn)
        have HK1' : Hid (∀ q, misN (L.map nuF) = q → q < k → chk L = (q, 260)) := HK1.out hbn
        have HK2' : Hid (misN (L.map nuF) = k → (k < 2 ∨ cntF outF (L.map nuF) < 2 ∨ cntF awF (L.map nuF) < 2) → chk L = (0, 260)) := HK2.out hbn
        have HK3' : Hid (misN (L.map nuF) = k → ¬ (k < 2 ∨ cntF outF (L.map nuF) < 2 ∨ cntF awF (L.map nuF) < 2) → chk L = (0, 0)) := HK3.out hbn
        clear HK0 HK1 HK2 HK3 hbn HF hlt
        go_wp2
        go_loop [5, 6, 7] (fun x y i => ∃ j : Nat, j ≤ k ∧ i = .int .i64 (j : Int) ∧ x = .int .i64 (cntF outF ((L.map nuF).take j) : Int) ∧ y = .int .i64 (cntF awF ((L.map nuF).take j) : Int) ∧ Hid (FstAt (fun i => !okB (L.map nuF) i) k j)) (fun _ _ i => k - (intOf i).toNat)
        case atStart => exact ⟨0, Nat.zero_le _, rfl, by rw [List.take_zero]; rfl, by rw [List.take_zero]; rfl, FstAt.zero _ _⟩
        case round =>
          obtain ⟨j, hj, rfl, rfl, rfl, HF⟩ := hrel
          by_cases hlt : j < k
          · have hki : (j : Int) < k := by omega
            have hpN : prv k j < k := prv_lt (by omega)
            obtain ⟨s, hs⟩ : ∃ s, L[j]? = some s := ⟨_, List.getElem?_eq_getElem (by rw [HL.out]; exact hlt)⟩
            obtain ⟨t, ht⟩ : ∃ t, L[prv k j]? = some t := ⟨_, List.getElem?_eq_getElem (by rw [HL.out]; exact hpN)⟩
            obtain ⟨b1, o1, rfl, hb1, hc⟩ := seg_cell HS.out (str_at hs)
            have hcp : w.cell? ⟨b1, o1 + prv k j, none⟩ = some (.string t) := by
              obtain ⟨b2, o2, h1, _, h2⟩ := seg_cell HS.out (str_at ht)
              cases h1; exact h2
            have hsm : (L.map nuF)[j]? = some (nuF s) := by rw [List.getElem?_map, hs]; rfl
            have htm : (L.map nuF)[prv k j]? = some (nuF t) := by rw [List.getElem?_map, ht]; rfl
            have HNL : (L.map nuF).length = k := by rw [List.length_map]; exact HL.out
            have hok := ok_hit HNL htm hsm
            have hs18 := HG.out s (List.mem_of_getElem? hs)
            have ht18 := HG.out t (List.mem_of_getElem? ht)
            have q1 := HC.out s
            have q2 := HC.out t
            rw [nuI_yes rfl hs18] at q1
            rw [nuI_yes rfl ht18] at q2
            have e1 := ends_any ht18 w
            have e2 := begins_any hs18 w
            have e3 := rout_any hs18 w
            have e4 := raway_any hs18 w
            have hbn := by_ne (to_01 _ ht18) (fr_01 _ hs18)
            rw [← hok] at hbn
            have HM1 : Hid (cntF outF ((L.map nuF).take (j + 1)) = cntF outF ((L.map nuF).take j) + if outF (nuF s) then 1 else 0) := by show _ = _; rw [take_at hsm, cnt_snoc]
            have HM2 : Hid (cntF awF ((L.map nuF).take (j + 1)) = cntF awF ((L.map nuF).take j) + if awF (nuF s) then 1 else 0) := by show _ = _; rw [take_at hsm, cnt_snoc]
            have l1 : cntF outF ((L.map nuF).take j) ≤ j := Nat.le_trans (cnt_le _ _) (List.length_take_le _ _)
            have l2 : cntF awF ((L.map nuF).take j) ≤ j := Nat.le_trans (cnt_le _ _) (List.length_take_le _ _)
            have l1I : (cntF outF ((L.map nuF).take j) : Int) ≤ 16 := by omega
            have l2I : (cntF awF ((L.map nuF).take j) : Int) ≤ 16 := by omega
            have hP : ((j : Int) + (k : Int) - 1) % (k : Int) = ((prv k j : Nat) : Int) := by
              unfold prv
              rw [show (j : Int) + k - 1 = ((j + k - 1 : Nat) : Int) by omega]; omega
            have hpI : ((prv k j : Nat) : Int) < k := by omega
            have hk0 : (0 : Int) < k := by omega
            have hk00 : ¬ (k : Int) = 0 := by omega
            have HNX : Hid (okB (L.map nuF) j = true → FstAt (fun i => !okB (L.map nuF) i) k (j + 1)) := fun h => HF.out.next hlt (by rw [h]; rfl)
            have HHT : Hid (okB (L.map nuF) j = false → misN (L.map nuF) = j) := fun h => by
              show fst' _ _ _ = _; rw [HNL]; exact HF.out.hit hlt (by rw [h]; rfl)
            clear HK2' HK3' HF hs ht hsm htm HNL hok hs18 ht18 HC HG l1 l2
            generalize prv k j = p at *
            generalize nuF s = u at *
            generalize nuF t = v at *
            generalize byF (toF v) = bt at *
            generalize byF (frF u) = bf at *
            generalize cntF outF ((L.map nuF).take j) = co at *
            generalize cntF awF ((L.map nuF).take j) = ca at *
            generalize okB (L.map nuF) j = ok at *
            cases ok with
            | true =>
              have HN := HNX.out rfl
              have HN' : Hid (FstAt (fun i => !okB (L.map nuF) i) k (j + 1)) := HN
              replace hbn : (bt != bf) = false := hbn
              clear HNX HHT HN
              cases hx : outF u <;> cases hy : awF u <;>
              · rw [hx] at e3 HM1
                rw [hy] at e4 HM2
                have HM1' := HM1.out
                have HM2' := HM2.out
                simp only [if_true, Bool.false_eq_true, if_false, Nat.add_zero] at HM1' HM2'
                have HX : Hid (_ = _) := HM1'
                have HY : Hid (_ = _) := HM2'
                clear hx hy HM1 HM2 HM1' HM2'
                have t1 : True := trivial
                go_wp2_with (first
                  | (clear t1; go_at_call 14; refine q1.mono ?_; rintro e' w' ⟨rfl, hw'⟩; replace hw' := hw'.symm; subst hw'; clear q1)
                  | (go_at_call 14; refine q2.mono ?_; rintro e' w' ⟨rfl, hw'⟩; replace hw' := hw'.symm; subst hw')
                  | (go_at_call 15; refine e1.mono ?_; rintro e' w' ⟨rfl, hw'⟩; replace hw' := hw'.symm; subst hw')
                  | (go_at_call 16; refine e2.mono ?_; rintro e' w' ⟨rfl, hw'⟩; replace hw' := hw'.symm; subst hw')
                  | (go_at_call 17; refine e3.mono ?_; rintro e' w' ⟨rfl, hw'⟩; replace hw' := hw'.symm; subst hw')
                  | (go_at_call 18; refine e4.mono ?_; rintro e' w' ⟨rfl, hw'⟩; replace hw' := hw'.symm; subst hw'))
                go_round
                case rel => exact ⟨j + 1, by omega, by go_num, by (rw [HX.out] <;> first | rfl | go_num), by (rw [HY.out] <;> first | rfl | go_num), HN'⟩
                case measure => simp [intOf]; omega
            | false =>
              have HN : Hid (misN (L.map nuF) = j) := HHT.out rfl
              replace hbn : (bt != bf) = true := hbn
              clear HNX HHT HM1 HM2
              have t1 : True := trivial
              go_wp2_with (first
                | (clear t1; go_at_call 14; refine q1.mono ?_; rintro e' w' ⟨rfl, hw'⟩; replace hw' := hw'.symm; subst hw'; clear q1)
                | (go_at_call 14; refine q2.mono ?_; rintro e' w' ⟨rfl, hw'⟩; replace hw' := hw'.symm; subst hw')
                | (go_at_call 15; refine e1.mono ?_; rintro e' w' ⟨rfl, hw'⟩; replace hw' := hw'.symm; subst hw')
                | (go_at_call 16; refine e2.mono ?_; rintro e' w' ⟨rfl, hw'⟩; replace hw' := hw'.symm; subst hw'))
              exact HA.out j 260 (HK1'.out j HN.out hlt)
          · have e : j = k := by omega
            subst e
            have hm : misN (L.map nuF) = j := by
              show fst' _ _ _ = _; rw [List.length_map, HL.out]; exact HF.out.done (Nat.le_refl _)
            have HKa := HK2'.out hm
            have HKb := HK3'.out hm
            have ht : (L.map nuF).take j = L.map nuF := List.take_of_length_le (by rw [List.length_map, HL.out]; exact Nat.le_refl _)
            rw [ht]
            clear hm HK1' HK2' HK3' HF hlt HC HG ht
            generalize cntF outF (L.map nuF) = x at *
            generalize cntF awF (L.map nuF) = y at *
            have HKA : Hid (j < 2 ∨ x < 2 ∨ y < 2 → chk L = (0, 260)) := HKa
            have HKB : Hid (¬ (j < 2 ∨ x < 2 ∨ y < 2) → chk L = (0, 0)) := HKb
            clear HKa HKb
            by_cases q1 : j < 2
            · have d1 : decide ((j : Int) < 2) = true := by simpa using (show (j : Int) < 2 by omega)
              have HZ := HKA.out (Or.inl q1)
              clear q1
              go_wp2
              exact HA.out 0 260 HZ
            · have d1 : decide ((j : Int) < 2) = false := by simpa using (show ¬ ((j : Int) < 2) by omega)
              by_cases q2 : x < 2
              · have d2 : decide ((x : Int) < 2) = true := by simpa using (show ((x : Int) < 2) by omega)
                have HZ := HKA.out (Or.inr (Or.inl q2))
                clear q1 q2
                go_wp2
                exact HA.out 0 260 HZ
              · have d2 : decide ((x : Int) < 2) = false := by simpa using (show ¬ ((x : Int) < 2) by omega)
                by_cases q3 : y < 2
                · have d3 : decide ((y : Int) < 2) = true := by simpa using (show ((y : Int) < 2) by omega)
                  have HZ := HKA.out (Or.inr (Or.inr q3))
                  clear q1 q2 q3
                  go_wp2
                  exact HA.out 0 260 HZ
                · have d3 : decide ((y : Int) < 2) = false := by simpa using (show ¬ ((y : Int) < 2) by omega)
                  have HZ := HKB.out (by omega)
                  clear q1 q2 q3
                  go_wp2
                  exact HA.out 0 0 HZ
end Go.Proofs.YtbecabkdnjkkeaaDoor

/- WC3, WC4, CS4 -/
import Derived.Test.YtegpnicajlndlaaWC2
import Derived.Lib.VarintMem
import Derived.Test.YtegpnicajlndlaaCS3
import Derived.Test.YtegpnicajlndlaaQap
import Derived.Lib.AppendStr
namespace Go.Proofs.Ytegpnicajlndlaa
open Go.RowKit M
set_option linter.unusedSimpArgs false
set_option linter.unusedVariables false
theorem digit_lt' {k d : Nat} (hk : k < 10) (hc : d < 128) (h9 : k = 9 → d ≤ 1) : d * 2 ^ (7 * k) < 18446744073709551616 := by
 have := digit_lt (c := d) hk (by omega) h9
 rwa [Nat.mod_eq_of_lt hc] at this
theorem unf_odd {U : Nat} {y : Int} (hy : y = (U : Int)) (h : U % 2 = 1) : -(y / 2) - 1 = unfoldN U := by unfold unfoldN; rw [if_pos h, hy]; omega
theorem unf_even {U : Nat} {y : Int} (hy : y = (U : Int)) (h : ¬ U % 2 = 1) : y / 2 = unfoldN U := by unfold unfoldN; rw [if_neg h, hy]; omega
set_option maxRecDepth 100000 in
set_option maxHeartbeats 2000000 in
theorem rtake_any (s : ByteArray) (at' : Int) (hs : s.size ≤ maxLen) (w : World) :
    Calls Try.prog 96 #[.string s, .int .i64 at'] w fun e w' => e = .returned (takeV (takeA s at')) ∧ w' = w := by
 unfold maxLen at hs
 by_cases h1 : at' < 0
 · go_enter Try.func96, Try.ntmps96
   go_wp2
   go_ret3
   exact ⟨by unfold takeA; rw [if_pos (Or.inl h1)]; rfl, rfl⟩
 by_cases h2 : (s.size : Int) ≤ at'
 · go_enter Try.func96, Try.ntmps96
   go_wp2
   go_ret3
   exact ⟨by unfold takeA; rw [if_pos (Or.inr h2)]; rfl, rfl⟩
 obtain ⟨a, rfl⟩ : ∃ a : Nat, at' = a := ⟨at'.toNat, by omega⟩
 have ha : a < s.size := by omega
 have HT : Hid (takeA s (a : Int) = takeF 0 0 ((s.data.toList.drop a).drop 0)) := by
  show takeA s (a : Int) = _
  unfold takeA; rw [if_neg (by omega)]; rfl
 go_enter Try.func96, Try.ntmps96
 go_wp2
 go_loop [7, 8] (fun u i => ∃ k X : Nat, k ≤ 10 ∧ a + k ≤ s.size ∧ X < 2 ^ (7 * k) ∧ u = .int .u64 X ∧ i = .int .i64 k ∧ Hid (takeA s (a : Int) = takeF k X ((s.data.toList.drop a).drop k))) (fun _ i => 10 - (intOf i).toNat)
 case atStart => exact ⟨0, 0, by omega, by omega, by decide, rfl, rfl, HT⟩
 case round =>
  obtain ⟨k, X, hk, hak, hX, rfl, rfl, HD⟩ := hrel
  clear HT
  have HX : Hid (X < 2 ^ (7 * k)) := hX
  clear hX
  by_cases hin : a + k < s.size
  · by_cases hk10 : k < 10
    · have HS : Hid ((s.data.toList.drop a).drop k = s[a + k] :: (s.data.toList.drop a).drop (k + 1)) := drop_step s a k hin
      have hc256 := s[a + k].toNat_lt
      by_cases hA : k = 9 ∧ 1 < s[a + k].toNat % 128
      · have h9 : ((k : Int) == 9) = true := by simp; omega
        have hc1 : 1 < (s[a + k].toNat : Int) % 128 := by omega
        have HR : Hid (takeA s (a : Int) = none) := by
         show takeA s (a : Int) = none
         rw [HD.out, HS.out]; exact takeF_bad (Or.inl (by omega))
        clear HD HS HX hA
        go_wp2
        go_ret3
        exact ⟨by rw [HR.out]; rfl, rfl⟩
      have hU := digit_next HX.out (Nat.mod_lt s[a + k].toNat (by decide : 128 > 0))
      have hd := digit_lt' hk10 (Nat.mod_lt s[a + k].toNat (by decide : 128 > 0)) (show k = 9 → s[a + k].toNat % 128 ≤ 1 by omega)
      obtain ⟨U, hUe⟩ : ∃ U, U = X + (s[a + k].toNat % 128) * 2 ^ (7 * k) := ⟨_, rfl⟩
      obtain ⟨y, hy⟩ : ∃ y : Int, y = (U : Int) := ⟨_, rfl⟩
      have hor : bits .or .u64 (X : Int) (IntKind.u64.wrap ((s[a + k].toNat : Int) % 128 * 2 ^ (7 * k))) = y := by
       have := or_step HX.out hd (by omega : 7 * k ≤ 63)
       rw [hy, hUe, ← this]; rfl
      have hU64 : U < 18446744073709551616 := by
       rw [hUe]
       exact sum_lt (by omega) HX.out hd
      have hy0 : 0 ≤ y := by omega
      have hy1 : y < 18446744073709551616 := by omega
      rw [← hUe] at hU
      have HU : Hid (U < 2 ^ (7 * (k + 1))) := hU
      have HUe : Hid (U = X + (s[a + k].toNat % 128) * 2 ^ (7 * k)) := hUe
      have Hy : Hid (y = (U : Int)) := hy
      have h9 : ((k : Int) == 9) = true ∧ ¬ 1 < (s[a + k].toNat : Int) % 128 ∨ ((k : Int) == 9) = false := by
       by_cases e : k = 9
       · left; constructor
         · simp; omega
         · omega
       · right; simp; omega
      clear hU hUe hy hU64 hd
      by_cases hC : s[a + k].toNat < 128
      · have h128 : ¬ 128 ≤ (s[a + k].toNat : Int) := by omega
        by_cases hB : 0 < k ∧ s[a + k].toNat = 0
        · have HR : Hid (takeA s (a : Int) = none) := by
           show takeA s (a : Int) = none
           rw [HD.out, HS.out]; exact takeF_bad (Or.inr hB)
          have hk0 : (0 : Int) < k := by omega
          have hc0 : ((s[a + k].toNat : Int) == 0) = true := by simp; exact hB.2
          clear HD HS HX hA hB HUe HU hC
          rcases h9 with ⟨h9, h9'⟩ | h9
          all_goals
           go_wp2
           go_ret3
           exact ⟨by rw [HR.out]; rfl, rfl⟩
        · have hbad : ¬ ((k = 9 ∧ 1 < s[a + k].toNat) ∨ (0 < k ∧ s[a + k].toNat = 0)) := by omega
          have HR : Hid (takeA s (a : Int) = some (unfoldN U, k + 1)) := by
           show takeA s (a : Int) = _
           rw [HD.out, HS.out, HUe.out]; exact takeF_last hk10 hbad hC
          have hx : ((s[a + k].toNat : Int) == 0) = false ∨ ((s[a + k].toNat : Int) == 0) = true ∧ ¬ (0 : Int) < k := by
           by_cases e : s[a + k].toNat = 0
           · right; constructor
             · simp; exact e
             · omega
           · left; simp; omega
          clear hbad hA hB HX HD HS HU HUe hC
          by_cases hm : U % 2 = 1
          · have hm' : (y % 2 == 1) = true := by rw [Hy.out]; simp; omega
            have Hm : Hid (U % 2 = 1) := hm
            clear hm
            rcases h9 with ⟨h9, h9'⟩ | h9
            all_goals
             rcases hx with hx | ⟨hx, hx'⟩
             all_goals
              go_wp2
              go_ret3
              exact ⟨by rw [HR.out, ← unf_odd Hy.out Hm.out]; rfl, rfl⟩
          · have hm' : (y % 2 == 1) = false := by rw [Hy.out]; simp; omega
            have Hm : Hid (¬ U % 2 = 1) := hm
            clear hm
            rcases h9 with ⟨h9, h9'⟩ | h9
            all_goals
             rcases hx with hx | ⟨hx, hx'⟩
             all_goals
              go_wp2
              go_ret3
              exact ⟨by rw [HR.out, ← unf_even Hy.out Hm.out]; rfl, rfl⟩
      · have h128 : 128 ≤ (s[a + k].toNat : Int) := by omega
        have HR : Hid (takeA s (a : Int) = takeF (k + 1) U ((s.data.toList.drop a).drop (k + 1))) := by
         show takeA s (a : Int) = _
         rw [HD.out, HS.out, HUe.out]
         by_cases e : k = 9
         · rw [takeF_bad (Or.inl (by omega)), takeF_ten (by omega)]
         · exact takeF_more hk10 (by omega) hC
        clear hA HX HD HS HUe hC
        rcases h9 with ⟨h9, h9'⟩ | h9
        all_goals
         go_wp2
         go_round
         case rel => exact ⟨k + 1, U, by omega, by omega, HU.out, by rw [Hy.out], by go_num, HR⟩
         case measure => simp [intOf]; omega
    · have HR : Hid (takeA s (a : Int) = none) := by
       show takeA s (a : Int) = none
       rw [HD.out]
       exact takeF_ten (by omega)
      clear HD HX
      go_wp2
      go_ret3
      exact ⟨by rw [HR.out]; rfl, rfl⟩
  · have HR : Hid (takeA s (a : Int) = none) := by
     show takeA s (a : Int) = none
     rw [HD.out, wdrop_end s a k (by omega)]; rfl
    clear HD HX
    go_wp2
    go_ret3
    exact ⟨by rw [HR.out]; rfl, rfl⟩
end Go.Proofs.Ytegpnicajlndlaa
namespace Go.Proofs.Ytegpnicajlndlaa
open Go.RowKit M Go.Joins
set_option linter.unusedSimpArgs false
set_option linter.unusedVariables false
theorem info5 : (Try.prog.info? 5).map (fun i => (i.zero, i.size, i.bytes)) = some (some (.int .u8 0), 1, 1) := by kernel_rfl
set_option maxRecDepth 100000 in
set_option maxHeartbeats 2000000 in
theorem put_any (v : Int) (h0 : -9223372036854775808 ≤ v) (h1 : v ≤ 9223372036854775807) (w : World) :
    Calls Try.prog 92 #[.int .i64 v] w fun e w' => e = .returned (.string ⟨(M.putL v).toArray⟩) ∧ Below w.heap.size w w' := by
 obtain ⟨i0, hi, hz0, hz1, hz2⟩ := info_parts info5
 have hfl := foldN_lt h0 h1
 have HP : Hid (M.putL v = enc (foldN v)) := rfl
 obtain ⟨u0, hu0⟩ : ∃ u0, u0 = foldN v := ⟨_, rfl⟩
 have HL : Hid ((enc u0).length ≤ 10) := by rw [hu0]; exact (M.putL_len h0 h1).2
 have hF : ∀ w, Calls Try.prog 116 #[.int .i64 v] w fun e w' => e = .returned (.int .u64 (u0 : Nat)) ∧ w' = w := by rw [hu0]; exact fold_any v h0 h1
 rw [← hu0] at HP hfl
 clear hu0
 go_enter Try.func92, Try.ntmps92
 go_wp2_with (go_at_call 116; refine (hF _).mono ?_; rintro e w' ⟨rfl, hw'⟩; replace hw' := hw'.symm; subst hw')
 go_loopw [3, 4] (fun u c wr => ∃ (U : Nat) (l : List UInt8), u = .int .u64 (U : Nat) ∧ U < 18446744073709551616 ∧ wr.ownsRow w.heap.size 5 1 c l.length (Lib.byteCells l) ∧ Below w.heap.size w wr ∧ Hid (enc u0 = l ++ enc U)) (fun u _ _ => (intOf u).toNat)
 case atStart => exact ⟨u0, [], rfl, hfl, World.ownsRow_nil _ _ _ _, Below.refl _ _, rfl⟩
 case round =>
  obtain ⟨U, l, rfl, hU, hown, hbel, HE⟩ := hrel
  have hsz := hbel.size
  have HLl : l.length ≤ 10 := by have := HL.out; have h2 := HE.out; rw [h2] at this; rw [List.length_append] at this; omega
  by_cases h128 : 128 ≤ U
  · have hv : (128 : Int) ≤ U := by omega
    have HN : Hid (enc u0 = (l ++ [(U % 128 + 128).toUInt8]) ++ enc (U / 128)) := by
     show enc u0 = _
     rw [HE.out, enc_great (by omega), List.append_assoc]; rfl
    have HB : Hid (Lib.byteCells (l ++ [(U % 128 + 128).toUInt8]) = Lib.byteCells l ++ [Value.int .u8 ((U % 128 + 128 : Nat) : Int)]) := Lib.byteCells_snoc l (by omega)
    clear HE
    go_wp2_with (at_builtin; refine wpList_append_own _ rfl _ _ 149 rfl w.heap.size 5 i0 (.int .u8 0) 1 1 Try.underlying149 hi hz0 hz1 hz2 rfl (by decide) _ _ _ rfl (hown.alloc _) ⟨wr.heap.size, 0, none⟩ 1 1 [Value.int .u8 ((U : Int) % 128 + 128)] rfl rfl (by intro j u' hj; match j, hj with | 0, hj => simp at hj; subst hj; simp [Addr.add]) (by intro u' hu'; simp at hu'; subst hu'; rfl) (by unfold maxLen; omega) (by omega) (by simp; omega) ?_)
    intro v2 w2 hown2 hgrow hne
    have hnx2 : Below w.heap.size w w2 := (hbel.alloc (by omega) _).grown hgrow (by simp; omega) (fun k hk => (hown.lt k hk).1)
    go_wp2
    go_roundw
    case rel =>
     refine ⟨U / 128, _, rfl, by omega, ?_, hnx2, HN⟩
     rw [HB.out, List.length_append]
     exact hown2
    case measure => simp [intOf] <;> omega
  · have hv : ¬ (128 : Int) ≤ U := by omega
    have HN : Hid (enc u0 = l ++ [U.toUInt8]) := by
     show enc u0 = _
     rw [HE.out, enc_small (by omega)]
    have HB : Hid (Lib.byteCells (l ++ [U.toUInt8]) = Lib.byteCells l ++ [Value.int .u8 ((U : Nat) : Int)]) := Lib.byteCells_snoc l (by omega)
    clear HE
    go_wp2_with (at_builtin; refine wpList_append_own _ rfl _ _ 149 rfl w.heap.size 5 i0 (.int .u8 0) 1 1 Try.underlying149 hi hz0 hz1 hz2 rfl (by decide) _ _ _ rfl (hown.alloc _) ⟨wr.heap.size, 0, none⟩ 1 1 [Value.int .u8 (U : Int)] rfl rfl (by intro j u' hj; match j, hj with | 0, hj => simp at hj; subst hj; simp [Addr.add]) (by intro u' hu'; simp at hu'; subst hu'; rfl) (by unfold maxLen; omega) (by omega) (by simp; omega) ?_)
    intro v2 w2 hown2 hgrow hne
    have hnx2 : Below w.heap.size w w2 := (hbel.alloc (by omega) _).grown hgrow (by simp; omega) (fun k hk => (hown.lt k hk).1)
    obtain ⟨L, hL⟩ : ∃ L, L = l ++ [U.toUInt8] := ⟨_, rfl⟩
    have hown3 : w2.ownsRow w.heap.size 5 1 v2 L.length (Lib.byteCells L) := by rw [hL, HB.out, List.length_append]; exact hown2
    have hpos : 0 < L.length := by rw [hL, List.length_append]; simp
    have HLe : Hid (M.putL v = L) := by show M.putL v = L; rw [HP.out, HN.out, hL]
    clear hL hown2
    rcases hown3.2 with ⟨-, hz⟩ | ⟨g, cap, cur, rfl, -, -, -, -, -, -⟩
    · omega
    · have hcv := run_convert_bytes_back (P := Try.prog) w2 149 9 5 ⟨g, 0, none⟩ cap L Try.underlying149 Try.underlying5 Try.underlying9 (fun j hj => hown3.cells (g := g) rfl j _ (by simp [Lib.byteCells, hj]))
      go_wp2
      go_ret
      exact ⟨by rw [HLe.out]; rfl, hnx2⟩
set_option maxRecDepth 100000 in
set_option maxHeartbeats 2000000 in
theorem rput_any (v : Int) (h0 : -9223372036854775808 ≤ v) (h1 : v ≤ 9223372036854775807) (w : World) :
    Calls Try.prog 58 #[.int .i64 v] w fun e w' => e = .returned (.string ⟨(M.putL v).toArray⟩) ∧ Below w.heap.size w w' := by
 obtain ⟨i0, hi, hz0, hz1, hz2⟩ := info_parts info5
 have hfl := foldN_lt h0 h1
 have HP : Hid (M.putL v = enc (foldN v)) := rfl
 obtain ⟨u0, hu0⟩ : ∃ u0, u0 = foldN v := ⟨_, rfl⟩
 have HL : Hid ((enc u0).length ≤ 10) := by rw [hu0]; exact (M.putL_len h0 h1).2
 by_cases hv0 : v < 0
 all_goals
  have HF : Hid ((if v < 0 then bits .xor .u64 IntKind.u64.max (IntKind.u64.wrap (IntKind.u64.wrap v * 2)) else v * 2) = (u0 : Int)) := by
   show (if v < 0 then bits .xor .u64 IntKind.u64.max (IntKind.u64.wrap (IntKind.u64.wrap v * 2)) else v * 2) = (u0 : Int)
   rw [hu0]
   first | (rw [if_pos hv0]; exact fold_neg h0 hv0) | (rw [if_neg hv0]; exact fold_pos (by omega))
  rw [← hu0] at HP hfl
  clear hu0
  first | (rw [if_pos hv0] at HF) | (rw [if_neg hv0] at HF)
  go_enter Try.func58, Try.ntmps58
  go_wp2
  go_loopw [3, 4] (fun u c wr => ∃ (U : Nat) (l : List UInt8), u = .int .u64 (U : Nat) ∧ U < 18446744073709551616 ∧ wr.ownsRow w.heap.size 5 1 c l.length (Lib.byteCells l) ∧ Below w.heap.size w wr ∧ Hid (enc u0 = l ++ enc U)) (fun u _ _ => (intOf u).toNat)
  case atStart => exact ⟨u0, [], by first | rfl | rw [HF.out], hfl, World.ownsRow_nil _ _ _ _, Below.refl _ _, rfl⟩
  case round =>
   obtain ⟨U, l, rfl, hU, hown, hbel, HE⟩ := hrel
   have hsz := hbel.size
   have HLl : l.length ≤ 10 := by have := HL.out; have h2 := HE.out; rw [h2] at this; rw [List.length_append] at this; omega
   by_cases h128 : 128 ≤ U
   · have hv : (128 : Int) ≤ U := by omega
     have HN : Hid (enc u0 = (l ++ [(U % 128 + 128).toUInt8]) ++ enc (U / 128)) := by
      show enc u0 = _
      rw [HE.out, enc_great (by omega), List.append_assoc]; rfl
     have HB : Hid (Lib.byteCells (l ++ [(U % 128 + 128).toUInt8]) = Lib.byteCells l ++ [Value.int .u8 ((U % 128 + 128 : Nat) : Int)]) := Lib.byteCells_snoc l (by omega)
     clear HE
     go_wp2_with (at_builtin; refine wpList_append_own _ rfl _ _ 149 rfl w.heap.size 5 i0 (.int .u8 0) 1 1 Try.underlying149 hi hz0 hz1 hz2 rfl (by decide) _ _ _ rfl (hown.alloc _) ⟨wr.heap.size, 0, none⟩ 1 1 [Value.int .u8 ((U : Int) % 128 + 128)] rfl rfl (by intro j u' hj; match j, hj with | 0, hj => simp at hj; subst hj; simp [Addr.add]) (by intro u' hu'; simp at hu'; subst hu'; rfl) (by unfold maxLen; omega) (by omega) (by simp; omega) ?_)
     intro v2 w2 hown2 hgrow hne
     have hnx2 : Below w.heap.size w w2 := (hbel.alloc (by omega) _).grown hgrow (by simp; omega) (fun k hk => (hown.lt k hk).1)
     go_wp2
     go_roundw
     case rel =>
      refine ⟨U / 128, _, rfl, by omega, ?_, hnx2, HN⟩
      rw [HB.out, List.length_append]
      exact hown2
     case measure => simp [intOf] <;> omega
   · have hv : ¬ (128 : Int) ≤ U := by omega
     have HN : Hid (enc u0 = l ++ [U.toUInt8]) := by
      show enc u0 = _
      rw [HE.out, enc_small (by omega)]
     have HB : Hid (Lib.byteCells (l ++ [U.toUInt8]) = Lib.byteCells l ++ [Value.int .u8 ((U : Nat) : Int)]) := Lib.byteCells_snoc l (by omega)
     clear HE
     go_wp2_with (at_builtin; refine wpList_append_own _ rfl _ _ 149 rfl w.heap.size 5 i0 (.int .u8 0) 1 1 Try.underlying149 hi hz0 hz1 hz2 rfl (by decide) _ _ _ rfl (hown.alloc _) ⟨wr.heap.size, 0, none⟩ 1 1 [Value.int .u8 (U : Int)] rfl rfl (by intro j u' hj; match j, hj with | 0, hj => simp at hj; subst hj; simp [Addr.add]) (by intro u' hu'; simp at hu'; subst hu'; rfl) (by unfold maxLen; omega) (by omega) (by simp; omega) ?_)
     intro v2 w2 hown2 hgrow hne
     have hnx2 : Below w.heap.size w w2 := (hbel.alloc (by omega) _).grown hgrow (by simp; omega) (fun k hk => (hown.lt k hk).1)
     obtain ⟨L, hL⟩ : ∃ L, L = l ++ [U.toUInt8] := ⟨_, rfl⟩
     have hown3 : w2.ownsRow w.heap.size 5 1 v2 L.length (Lib.byteCells L) := by rw [hL, HB.out, List.length_append]; exact hown2
     have hpos : 0 < L.length := by rw [hL, List.length_append]; simp
     have HLe : Hid (M.putL v = L) := by show M.putL v = L; rw [HP.out, HN.out, hL]
     clear hL hown2
     rcases hown3.2 with ⟨-, hz⟩ | ⟨g, cap, cur, rfl, -, -, -, -, -, -⟩
     · omega
     · have hcv := run_convert_bytes_back (P := Try.prog) w2 149 9 5 ⟨g, 0, none⟩ cap L Try.underlying149 Try.underlying5 Try.underlying9 (fun j hj => hown3.cells (g := g) rfl j _ (by simp [Lib.byteCells, hj]))
       go_wp2
       go_ret
       exact ⟨by rw [HLe.out]; rfl, hnx2⟩
end Go.Proofs.Ytegpnicajlndlaa
namespace Go.Proofs.Ytegpnicajlndlaa
open Go.RowKit M
set_option linter.unusedSimpArgs false
set_option linter.unusedVariables false
def Tx (W : World) (B b : Nat) (l : List UInt8) : Prop := ∃ v, IsS W b 149 [v] ∧ W.ownsRow B 5 1 v l.length (Lib.byteCells l) ∧ B ≤ b ∧ v.ownBlock ≠ some b
structure TxF (B : Nat) (W W' : World) : Prop where
 below : Below B W W'
 keep : ∀ k t cs, IsS W k t cs → t ≠ 149 → t ≠ 5 → IsS W' k t cs
theorem TxF.refl (B : Nat) (W : World) : TxF B W W := ⟨Below.refl _ _, fun _ _ _ h _ _ => h⟩
theorem TxF.trans {B : Nat} {W W' W'' : World} (h : TxF B W W') (h' : TxF B W' W'') : TxF B W W'' := ⟨h.below.trans h'.below, fun k t cs hc h1 h2 => h'.keep k t cs (h.keep k t cs hc h1 h2) h1 h2⟩
theorem isS_own_ne {W : World} {B t s n b t' : Nat} {v : Value} {xs cs : List Value} (h : W.ownsRow B t s v n xs) (hc : IsS W b t' cs) (ht : t ≠ t') : v.ownBlock ≠ some b := by
 rcases h.2 with ⟨rfl, _⟩ | ⟨g, cap, cur, rfl, _, hh, _⟩
 · intro e; cases e
 · intro e
   cases e
   rw [show W.heap[g]? = _ from hc] at hh
   cases hh
   exact ht rfl
theorem isS_ty {W : World} {b t t' : Nat} {cs cs' : List Value} (h : IsS W b t cs) (h' : IsS W b t' cs') : t = t' := by
 unfold IsS at h h'
 rw [h] at h'
 cases h'
 rfl
theorem info149 : (Try.prog.info? 149).map (·.size) = some 1 := by kernel_rfl
set_option maxRecDepth 100000 in
set_option maxHeartbeats 4000000 in
theorem putc_any (v : Int) (hv : I64 v) (B b : Nat) (l : List UInt8) (hl : l.length ≤ 1099511627776) (w : World) (hB : B ≤ w.heap.size) (hT : Tx w B b l) :
    Calls Try.prog 91 #[.int .i64 v, .pointer (some ⟨b, 0, none⟩)] w fun e w' => e = .returned (.tuple #[]) ∧ Tx w' B b (l ++ M.putL v) ∧ TxF B w w' := by
 obtain ⟨vv, hI, hO, hBb, _⟩ := hT
 obtain ⟨i0, hi, hz0, hz1, hz2⟩ := info_parts info5
 have hp10 := (M.putL_len hv.1 hv.2).2
 have hput := fun W => put_any v hv.1 hv.2 W
 obtain ⟨L, hL⟩ : ∃ L, M.putL v = L := ⟨_, rfl⟩
 rw [hL] at hp10 ⊢
 simp only [hL] at hput
 have hsz : (⟨L.toArray⟩ : ByteArray).size = L.length := rfl
 obtain ⟨S, hS⟩ : ∃ S : ByteArray, S = ⟨L.toArray⟩ := ⟨_, rfl⟩
 have HS : Hid (S = ⟨L.toArray⟩) := hS
 rw [← hS] at hsz
 simp only [← hS] at hput
 have HZ : Hid (S.size = L.length) := hsz
 have h10 : S.size ≤ 10 := by omega
 clear hL hS hv hsz
 have ta : True := trivial
 have tb : True := trivial
 go_enter Try.func91, Try.ntmps91
 refine grow_tailV 3 (by kernel_rfl) (by kernel_rfl) ?_
 simp only [List.take_succ_cons, List.take_zero]
 refine WG.load1 rfl 149 _ rfl rfl hI (v := vv) rfl (fun w h => by simp [go_sem, h]) ?_; simp only [sP]
 refine WG.put rfl (v := .int .i64 v) (fun w => by first | rfl | (go_simp; done) | (simp [go_sem]; done)) ?_; simp only [sP]
 refine WG.call rfl (f := 92) (v := .string S) (fun W _ => hput W) (fun w => by first | rfl | (go_simp; done) | (simp [execOp, go_sem]; done)) ?_; simp only [sP]
 refine WG.nil ?_
 intro W1 B1
 simp only [List.drop_succ_cons, List.drop_zero]
 have I1 := hI.grown B1
 have O1 := own_belowY hO B1
 have hB1 : B ≤ W1.heap.size := Nat.le_trans hB B1.size
 refine Lib.wpList_append_own_string _ rfl _ _ 149 9 rfl B 5 i0 Try.underlying149 Try.underlying9 hi hz0 hz1 hz2 vv l.length (Lib.byteCells l) rfl O1 S rfl (by unfold maxLen; omega) (by omega) hB1 ?_
 intro v2 W2 O2 G2 _
 have I2 := isS_grow I1 O1 G2 (by decide)
 go_wp2_with (first
  | (clear tb; refine wpList_store1 rfl 149 _ _ rfl rfl v2 rfl I2 (by simp) info149 (one_own O2) ?_; intro W3 U3 I3x; have I3 : IsS W3 b 149 [v2] := I3x))
 go_end0
 have F12 : ∀ k t cs, IsS w k t cs → t ≠ 149 → t ≠ 5 → IsS W2 k t cs := fun k t cs hc _ h5 => isS_grow (hc.grown B1) O1 G2 h5
 have O2' : W2.ownsRow B 5 1 v2 (l ++ L).length (Lib.byteCells (l ++ L)) := by
  rw [Lib.byteCells_append, List.length_append, ← HZ.out]
  have := O2
  rw [HS.out] at this ⊢
  exact this
 refine ⟨rfl, ⟨v2, I3, own_upd O2' I2 U3 (by decide), hBb, isS_own_ne (own_upd O2' I2 U3 (by decide)) I3 (by decide)⟩, ?_, fun k t cs hc h1 h5 => (F12 k t cs hc h1 h5).upd U3 (fun e => ?_)⟩
 · have h2 : Below B w W2 := grown_below (B1.mono hB) hB1 O1 G2
   exact U3.trans h2 hBb
 · subst e
   exact h1 (isS_ty (F12 k t cs hc h1 h5) I2)
end Go.Proofs.Ytegpnicajlndlaa

/- Put, the program's and the reference's. -/
import Derived.Test.YtegpnicajlndlaaWC3
import Derived.Lib.VarintMem
namespace Go.Proofs.Ytegpnicajlndlaa
open Go.RowKit M Go.Joins
set_option linter.unusedSimpArgs false
set_option linter.unusedVariables false

theorem info5 : (Try.prog.info? 5).map (fun i => (i.zero, i.size, i.bytes)) = some (some (.int .u8 0), 1, 1) := by kernel_rfl

set_option maxRecDepth 100000 in
set_option maxHeartbeats 2000000 in
theorem put_any (v : Int) (h0 : -9223372036854775808 ≤ v) (h1 : v ≤ 9223372036854775807) (w : World) :
    Calls Try.prog 92 #[.int .i64 v] w fun e w' => e = .returned (.string ⟨(putL v).toArray⟩) ∧ Below w.heap.size w w' := by
  obtain ⟨i0, hi, hz0, hz1, hz2⟩ := info_parts info5
  have hfl := foldN_lt h0 h1
  have HP : Hid (putL v = enc (foldN v)) := rfl
  obtain ⟨u0, hu0⟩ : ∃ u0, u0 = foldN v := ⟨_, rfl⟩
  have HL : Hid ((enc u0).length ≤ 10) := by rw [hu0]; exact (putL_len h0 h1).2
  have hF : ∀ w, Calls Try.prog 116 #[.int .i64 v] w fun e w' => e = .returned (.int .u64 (u0 : Nat)) ∧ w' = w := by rw [hu0]; exact fold_any v h0 h1
  rw [← hu0] at HP hfl
  clear hu0
  go_enter Try.func92, Try.ntmps92
  go_wp2_with (go_at_call 116; refine (hF _).mono ?_; rintro e w' ⟨rfl, hw'⟩; replace hw' := hw'.symm; subst hw')
  go_loopw [3, 4] (fun u c wr => ∃ (U : Nat) (l : List UInt8), u = .int .u64 (U : Nat) ∧ U < 18446744073709551616 ∧ wr.ownsRow w.heap.size 5 1 c l.length (Lib.byteCells l) ∧ Below w.heap.size w wr ∧ Hid (enc u0 = l ++ enc U)) (fun u _ _ => (intOf u).toNat)
  case atStart => exact ⟨u0, [], rfl, hfl, World.ownsRow_nil _ _ _ _, Below.refl _ _, rfl⟩
  case round =>
    obtain ⟨U, l, rfl, hU, hown, hbel, HE⟩ := hrel
    have hsz := hbel.size
    have HLl : l.length ≤ 10 := by have := HL.out; have h2 := HE.out; rw [h2] at this; rw [List.length_append] at this; omega
    by_cases h128 : 128 ≤ U
    · have hv : (128 : Int) ≤ U := by omega
      have HN : Hid (enc u0 = (l ++ [(U % 128 + 128).toUInt8]) ++ enc (U / 128)) := by
        show enc u0 = _
        rw [HE.out, enc_great (by omega), List.append_assoc]; rfl
      have HB : Hid (Lib.byteCells (l ++ [(U % 128 + 128).toUInt8]) = Lib.byteCells l ++ [Value.int .u8 ((U % 128 + 128 : Nat) : Int)]) := Lib.byteCells_snoc l (by omega)
      clear HE
      go_wp2_with (at_builtin; refine wpList_append_own _ rfl _ _ 149 rfl w.heap.size 5 i0 (.int .u8 0) 1 1 Try.underlying149 hi hz0 hz1 hz2 rfl (by decide) _ _ _ rfl (hown.alloc _) ⟨wr.heap.size, 0, none⟩ 1 1 [Value.int .u8 ((U : Int) % 128 + 128)] rfl rfl (by intro j u' hj; match j, hj with | 0, hj => simp at hj; subst hj; simp [Addr.add]) (by intro u' hu'; simp at hu'; subst hu'; rfl) (by unfold maxLen; omega) (by omega) (by simp; omega) ?_)
      intro v2 w2 hown2 hgrow hne
      have hnx2 : Below w.heap.size w w2 := (hbel.alloc (by omega) _).grown hgrow (by simp; omega) (fun k hk => (hown.lt k hk).1)
      go_wp2
      go_roundw
      case rel =>
        refine ⟨U / 128, _, rfl, by omega, ?_, hnx2, HN⟩
        rw [HB.out, List.length_append]
        exact hown2
      case measure => simp [intOf] <;> omega
    · have hv : ¬ (128 : Int) ≤ U := by omega
      have HN : Hid (enc u0 = l ++ [U.toUInt8]) := by
        show enc u0 = _
        rw [HE.out, enc_small (by omega)]
      have HB : Hid (Lib.byteCells (l ++ [U.toUInt8]) = Lib.byteCells l ++ [Value.int .u8 ((U : Nat) : Int)]) := Lib.byteCells_snoc l (by omega)
      clear HE
      go_wp2_with (at_builtin; refine wpList_append_own _ rfl _ _ 149 rfl w.heap.size 5 i0 (.int .u8 0) 1 1 Try.underlying149 hi hz0 hz1 hz2 rfl (by decide) _ _ _ rfl (hown.alloc _) ⟨wr.heap.size, 0, none⟩ 1 1 [Value.int .u8 (U : Int)] rfl rfl (by intro j u' hj; match j, hj with | 0, hj => simp at hj; subst hj; simp [Addr.add]) (by intro u' hu'; simp at hu'; subst hu'; rfl) (by unfold maxLen; omega) (by omega) (by simp; omega) ?_)
      intro v2 w2 hown2 hgrow hne
      have hnx2 : Below w.heap.size w w2 := (hbel.alloc (by omega) _).grown hgrow (by simp; omega) (fun k hk => (hown.lt k hk).1)
      obtain ⟨L, hL⟩ : ∃ L, L = l ++ [U.toUInt8] := ⟨_, rfl⟩
      have hown3 : w2.ownsRow w.heap.size 5 1 v2 L.length (Lib.byteCells L) := by rw [hL, HB.out, List.length_append]; exact hown2
      have hpos : 0 < L.length := by rw [hL, List.length_append]; simp
      have HLe : Hid (putL v = L) := by show putL v = L; rw [HP.out, HN.out, hL]
      clear hL hown2
      rcases hown3.2 with ⟨-, hz⟩ | ⟨g, cap, cur, rfl, -, -, -, -, -, -⟩
      · omega
      · have hcv := run_convert_bytes_back (P := Try.prog) w2 149 9 5 ⟨g, 0, none⟩ cap L Try.underlying149 Try.underlying5 Try.underlying9 (fun j hj => hown3.cells (g := g) rfl j _ (by simp [Lib.byteCells, hj]))
        go_wp2
        go_ret
        exact ⟨by rw [HLe.out]; rfl, hnx2⟩

set_option maxRecDepth 100000 in
set_option maxHeartbeats 2000000 in
theorem rput_any (v : Int) (h0 : -9223372036854775808 ≤ v) (h1 : v ≤ 9223372036854775807) (w : World) :
    Calls Try.prog 58 #[.int .i64 v] w fun e w' => e = .returned (.string ⟨(putL v).toArray⟩) ∧ Below w.heap.size w w' := by
  obtain ⟨i0, hi, hz0, hz1, hz2⟩ := info_parts info5
  have hfl := foldN_lt h0 h1
  have HP : Hid (putL v = enc (foldN v)) := rfl
  obtain ⟨u0, hu0⟩ : ∃ u0, u0 = foldN v := ⟨_, rfl⟩
  have HL : Hid ((enc u0).length ≤ 10) := by rw [hu0]; exact (putL_len h0 h1).2
  by_cases hv0 : v < 0
  all_goals
    have HF : Hid ((if v < 0 then bits .xor .u64 IntKind.u64.max (IntKind.u64.wrap (IntKind.u64.wrap v * 2)) else v * 2) = (u0 : Int)) := by
      show (if v < 0 then bits .xor .u64 IntKind.u64.max (IntKind.u64.wrap (IntKind.u64.wrap v * 2)) else v * 2) = (u0 : Int)
      rw [hu0]
      first | (rw [if_pos hv0]; exact fold_neg h0 hv0) | (rw [if_neg hv0]; exact fold_pos (by omega))
    rw [← hu0] at HP hfl
    clear hu0
    first | (rw [if_pos hv0] at HF) | (rw [if_neg hv0] at HF)
    go_enter Try.func58, Try.ntmps58
    go_wp2
    go_loopw [3, 4] (fun u c wr => ∃ (U : Nat) (l : List UInt8), u = .int .u64 (U : Nat) ∧ U < 18446744073709551616 ∧ wr.ownsRow w.heap.size 5 1 c l.length (Lib.byteCells l) ∧ Below w.heap.size w wr ∧ Hid (enc u0 = l ++ enc U)) (fun u _ _ => (intOf u).toNat)
    case atStart => exact ⟨u0, [], by first | rfl | rw [HF.out], hfl, World.ownsRow_nil _ _ _ _, Below.refl _ _, rfl⟩
    case round =>
      obtain ⟨U, l, rfl, hU, hown, hbel, HE⟩ := hrel
      have hsz := hbel.size
      have HLl : l.length ≤ 10 := by have := HL.out; have h2 := HE.out; rw [h2] at this; rw [List.length_append] at this; omega
      by_cases h128 : 128 ≤ U
      · have hv : (128 : Int) ≤ U := by omega
        have HN : Hid (enc u0 = (l ++ [(U % 128 + 128).toUInt8]) ++ enc (U / 128)) := by
          show enc u0 = _
          rw [HE.out, enc_great (by omega), List.append_assoc]; rfl
        have HB : Hid (Lib.byteCells (l ++ [(U % 128 + 128).toUInt8]) = Lib.byteCells l ++ [Value.int .u8 ((U % 128 + 128 : Nat) : Int)]) := Lib.byteCells_snoc l (by omega)
        clear HE
        go_wp2_with (at_builtin; refine wpList_append_own _ rfl _ _ 149 rfl w.heap.size 5 i0 (.int .u8 0) 1 1 Try.underlying149 hi hz0 hz1 hz2 rfl (by decide) _ _ _ rfl (hown.alloc _) ⟨wr.heap.size, 0, none⟩ 1 1 [Value.int .u8 ((U : Int) % 128 + 128)] rfl rfl (by intro j u' hj; match j, hj with | 0, hj => simp at hj; subst hj; simp [Addr.add]) (by intro u' hu'; simp at hu'; subst hu'; rfl) (by unfold maxLen; omega) (by omega) (by simp; omega) ?_)
        intro v2 w2 hown2 hgrow hne
        have hnx2 : Below w.heap.size w w2 := (hbel.alloc (by omega) _).grown hgrow (by simp; omega) (fun k hk => (hown.lt k hk).1)
        go_wp2
        go_roundw
        case rel =>
          refine ⟨U / 128, _, rfl, by omega, ?_, hnx2, HN⟩
          rw [HB.out, List.length_append]
          exact hown2
        case measure => simp [intOf] <;> omega
      · have hv : ¬ (128 : Int) ≤ U := by omega
        have HN : Hid (enc u0 = l ++ [U.toUInt8]) := by
          show enc u0 = _
          rw [HE.out, enc_small (by omega)]
        have HB : Hid (Lib.byteCells (l ++ [U.toUInt8]) = Lib.byteCells l ++ [Value.int .u8 ((U : Nat) : Int)]) := Lib.byteCells_snoc l (by omega)
        clear HE
        go_wp2_with (at_builtin; refine wpList_append_own _ rfl _ _ 149 rfl w.heap.size 5 i0 (.int .u8 0) 1 1 Try.underlying149 hi hz0 hz1 hz2 rfl (by decide) _ _ _ rfl (hown.alloc _) ⟨wr.heap.size, 0, none⟩ 1 1 [Value.int .u8 (U : Int)] rfl rfl (by intro j u' hj; match j, hj with | 0, hj => simp at hj; subst hj; simp [Addr.add]) (by intro u' hu'; simp at hu'; subst hu'; rfl) (by unfold maxLen; omega) (by omega) (by simp; omega) ?_)
        intro v2 w2 hown2 hgrow hne
        have hnx2 : Below w.heap.size w w2 := (hbel.alloc (by omega) _).grown hgrow (by simp; omega) (fun k hk => (hown.lt k hk).1)
        obtain ⟨L, hL⟩ : ∃ L, L = l ++ [U.toUInt8] := ⟨_, rfl⟩
        have hown3 : w2.ownsRow w.heap.size 5 1 v2 L.length (Lib.byteCells L) := by rw [hL, HB.out, List.length_append]; exact hown2
        have hpos : 0 < L.length := by rw [hL, List.length_append]; simp
        have HLe : Hid (putL v = L) := by show putL v = L; rw [HP.out, HN.out, hL]
        clear hL hown2
        rcases hown3.2 with ⟨-, hz⟩ | ⟨g, cap, cur, rfl, -, -, -, -, -, -⟩
        · omega
        · have hcv := run_convert_bytes_back (P := Try.prog) w2 149 9 5 ⟨g, 0, none⟩ cap L Try.underlying149 Try.underlying5 Try.underlying9 (fun j hj => hown3.cells (g := g) rfl j _ (by simp [Lib.byteCells, hj]))
          go_wp2
          go_ret
          exact ⟨by rw [HLe.out]; rfl, hnx2⟩
end Go.Proofs.Ytegpnicajlndlaa

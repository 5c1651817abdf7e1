/- Several texts in one: V4, V6, V7. -/
import Derived.Test.YtopnbemodlcknaaDoorLxX17
import Derived.Test.YtopnbemodlcknaaDoorLxX18
import Derived.Test.YtopnbemodlcknaaDoorLxVA
import Derived.Test.YtopnbemodlcknaaDoorLxEA
import Derived.BigQuiet
/- The reference's token: names. -/
namespace Go.Proofs.YtopnbemodlcknaaDoor.Lx
open Go.RowKit M
set_option linter.unusedSimpArgs false
set_option linter.unusedVariables false

theorem ret_STT {w : World} {b t k m : Nat} {cs : List Value} {fn : Func} {p : Tmp} {R : Ending → World → Prop} {a : Act} (h : fn.results = #[.cell p t, .tmp k, .tmp m]) (hp : a.tmps.getD p undef = .pointer (some ⟨b, 0, none⟩))
    (hd : a.defers = []) (hc : IsS w b t cs) (d : TypeDesc) (hu : Tryd.prog.underlying t = some d) (hr : (match d with | .struct _ => true | .array _ _ => true | _ => false) = true) (hi : (Tryd.prog.info? t).map (·.size) = some cs.length) (v : Value) (hv : a.tmps.getD k undef = v) (u : Value) (hu' : a.tmps.getD m undef = u) (hR : R (.returned (.tuple #[.agg cs.toArray, v, u])) w) : bodyPost Tryd.prog fn R .ret a w := by
  have hc' : w.heap[b]? = some (.cells cs.toArray t (0, 0)) := hc
  have hp' : a.tmps[p]?.getD undef = .pointer (some ⟨b, 0, none⟩) := by simpa using hp
  have hv' : a.tmps[k]?.getD undef = v := by simpa using hv
  have hu2 : a.tmps[m]?.getD undef = u := by simpa using hu'
  refine ⟨hd, .tuple #[.agg cs.toArray, v, u], ?_, hR⟩
  simp [results, h, hp', hv', hu2, asAddr, run_loadVar_row w b t t cs.toArray (0, 0) d hc' hu (by cases d <;> simp_all) (by simpa using hi)]

/-- What the reference's token answers, at a place where a piece is cut. -/
def rtokV (p : Nat) (C : Piece) : Value := if C.wrong = 0 then .tuple #[tokV ⟨C.kind, C.text, C.value, 0, 0, p, p + C.length⟩, .int .i64 0, .int .i64 0] else .tuple #[tokV noTok, .int .i64 (C.wrong : Int), .int .i64 ((p + C.length : Nat) : Int)]
theorem rtok_ok (p kd : Nat) (tx : List UInt8) (vl : Int) (n : Nat) : rtokV p ⟨kd, tx, vl, n, 0⟩ = .tuple #[.agg (tokL ⟨kd, tx, vl, 0, 0, p, p + n⟩).toArray, .int .i64 0, .int .i64 0] := rfl
theorem rtok_bad (p kd : Nat) (tx : List UInt8) (vl : Int) (n wr : Nat) (h : wr ≠ 0) : rtokV p ⟨kd, tx, vl, n, wr⟩ = .tuple #[.agg (tokL noTok).toArray, .int .i64 (wr : Int), .int .i64 ((p + n : Nat) : Int)] := by unfold rtokV; rw [if_neg h]; rfl

set_option maxRecDepth 100000 in
set_option maxHeartbeats 2000000 in
theorem rtoken_name (s : ByteArray) (hs : s.size < 2305843009213693952) (p : Nat) (hp : p < s.size) (hl : letN s[p].toNat = true) (w : World) :
    Calls Tryd.prog 23 #[.string s, .int .i64 (p : Int)] w fun e w' => e = .returned (rtokV p (cutF (s.data.toList.drop p))) ∧ Below w.heap.size w w' := by
  have hC : cutF (s.data.toList.drop p) = namePiece (s.data.toList.drop p) := (by rw [drop_cons s p hp]; unfold cutF; dsimp only; rw [if_pos hl])
  have hle := nameLen_le (s.data.toList.drop p)
  rw [List.length_drop, ← sizeL] at hle
  have cN := fun w => rname_any s (by unfold maxLen; omega) p (by omega) w
  have cL := fun w => rletter_any s[p].toNat s[p].toNat_lt w
  have hTX : s.extract p (p + nameLen (s.data.toList.drop p)) = ⟨((s.data.toList.drop p).take (nameLen (s.data.toList.drop p))).toArray⟩ := (by rw [exA, take_drop_add])
  unfold namePiece at hC
  obtain ⟨L, hL⟩ : ∃ L, nameLen (s.data.toList.drop p) = L := ⟨_, rfl⟩
  rw [hL] at hC hle cN hTX
  rw [hl] at cL
  clear hl hL
  obtain ⟨C, hCC⟩ : ∃ C, cutF (s.data.toList.drop p) = C := ⟨_, rfl⟩
  rw [hCC] at hC ⊢
  clear hCC
  generalize (s.data.toList.drop p).take L = tx at *
  have hpi : (p : Int) < s.size := by omega
  have hle2 : (p : Int) + L ≤ s.size := by omega
  have HTX : Hid (s.extract p (p + L) = ⟨tx.toArray⟩) := hTX
  clear hTX
  by_cases h64 : 64 < L
  · have hi : (64 : Int) < L := by omega
    have HF : Hid (C = ⟨0, [], 0, 0, 1⟩) := (by show _ = _; rw [hC, if_pos h64])
    clear hC h64
    have tk : True := trivial
    go_enter Tryd.func23, Tryd.ntmps23
    go_wp2_with (first
      | (refine wpList_allocS rfl 44 rfl (tokL noTok) Tryd.zeroValue44 ?_; clear tk; intro W1 b4 F1 N4; have hb4 : w.heap.size ≤ b4 := Nat.le_of_eq F1.at'.symm; have B1 := F1.trans (Below.refl _ w) (Nat.le_refl _); clear F1)
      | (refine wpList_allocS rfl 44 rfl (tokL noTok) Tryd.zeroValue44 ?_; intro W2 b7 F2 N7; have hb7 : w.heap.size ≤ b7 := Nat.le_trans B1.size (Nat.le_of_eq F2.at'.symm); have h47 : b4 ≠ b7 := (by have := N4.lt; have := F2.at'; omega); have N4b := N4.fresh F2; have B2 := F2.trans B1 B1.size; clear F2 N4 B1)
      | (refine wpList_storeS rfl 44 _ _ rfl rfl (tokL ⟨0, [], 0, 0, 0, p, 0⟩) rfl N7 (by simp [tokL, noTok]) info38 (tok_one _) ?_; intro W3 U3 M7x; have M7 : IsS W3 b7 44 (tokL ⟨0, [], 0, 0, 0, p, 0⟩) := M7x; have M4 := N4b.upd U3 h47; have B3 := U3.trans B2 hb7; clear U3 N7 N4b B2 M7x)
      | (go_at_call 30; refine (cL _).mono ?_; rintro e w' ⟨rfl, hw'⟩; replace hw' := hw'.symm; subst hw')
      | (go_at_call 31; refine (cN _).mono ?_; rintro e w' ⟨rfl, hw'⟩; replace hw' := hw'.symm; subst hw')
      | (refine wpList_storeS rfl 44 _ _ rfl rfl (tokL noTok) rfl M4 (by simp [tokL, noTok]) info38 (tok_one _) ?_; intro V9 U9 NZx; have NZ : IsS V9 b4 44 (tokL noTok) := NZx; have BZ := U9.trans B3 hb4; clear U9 M4 B3 NZx))
    refine ret_STT rfl rfl rfl NZ _ Tryd.underlying44 rfl info38 _ rfl _ rfl ⟨?_, BZ⟩
    rw [HF.out, rtok_bad p 0 [] 0 0 1 (by omega)]; rfl
  · have hi : ¬ (64 : Int) < L := by omega
    have HF : Hid (C = ⟨1, tx, 0, L, 0⟩) := (by show _ = _; rw [hC, if_neg h64])
    clear hC h64
    have tk : True := trivial
    go_enter Tryd.func23, Tryd.ntmps23
    go_wp2_with (first
      | (refine wpList_allocS rfl 44 rfl (tokL noTok) Tryd.zeroValue44 ?_; clear tk; intro W1 b4 F1 N4; have hb4 : w.heap.size ≤ b4 := Nat.le_of_eq F1.at'.symm; have B1 := F1.trans (Below.refl _ w) (Nat.le_refl _); clear F1)
      | (refine wpList_allocS rfl 44 rfl (tokL noTok) Tryd.zeroValue44 ?_; intro W2 b7 F2 N7; have hb7 : w.heap.size ≤ b7 := Nat.le_trans B1.size (Nat.le_of_eq F2.at'.symm); have h47 : b4 ≠ b7 := (by have := N4.lt; have := F2.at'; omega); have N4b := N4.fresh F2; have B2 := F2.trans B1 B1.size; clear F2 N4 B1)
      | (refine wpList_storeS rfl 44 _ _ rfl rfl (tokL ⟨0, [], 0, 0, 0, p, 0⟩) rfl N7 (by simp [tokL, noTok]) info38 (tok_one _) ?_; intro W3 U3 M7x; have M7 : IsS W3 b7 44 (tokL ⟨0, [], 0, 0, 0, p, 0⟩) := M7x; have M4 := N4b.upd U3 h47; have B3 := U3.trans B2 hb7; clear U3 N7 N4b B2 M7x)
      | (go_at_call 30; refine (cL _).mono ?_; rintro e w' ⟨rfl, hw'⟩; replace hw' := hw'.symm; subst hw')
      | (go_at_call 31; refine (cN _).mono ?_; rintro e w' ⟨rfl, hw'⟩; replace hw' := hw'.symm; subst hw'))
    have t0 : W3.cell? ⟨b7, 0, none⟩ = some (.int .i64 0) := M7.cell 0
    have r0 := M7.frozen 0
    have t1 : W3.cell? ⟨b7, 1, none⟩ = some (.string ⟨#[]⟩) := M7.cell 1
    have r1 := M7.frozen 1
    have t6 : W3.cell? ⟨b7, 6, none⟩ = some (.int .i64 0) := M7.cell 6
    have r6 := M7.frozen 6
    go_region
    have MX := (((M7.set1 0 (.int .i64 1)).set1 1 (.string (s.extract p (p + L)))).set1 6 (.int .i64 ((p : Int) + L)))
    have UX := (((Upd.setCell W3 b7 0 (.int .i64 1)).comp (Upd.setCell _ b7 1 (.string (s.extract p (p + L))))).comp (Upd.setCell _ b7 6 (.int .i64 ((p : Int) + L))))
    clear t0 r0 t1 r1 t6 r6
    generalize (((W3.setCell ⟨b7, 0, none⟩ (.int .i64 1)).setCell ⟨b7, 1, none⟩ (.string (s.extract p (p + L)))).setCell ⟨b7, 6, none⟩ (.int .i64 ((p : Int) + L))) = X at MX UX ⊢
    rw [HTX.out] at MX
    have Z7 : IsS X.drew b7 44 (tokL ⟨1, tx, 0, 0, 0, p, p + L⟩) := (by have := MX; simp only [tokL] at this ⊢; rw [Int.natCast_add]; exact this)
    have Z4 : IsS X.drew b4 44 (tokL noTok) := (show IsS X b4 44 (tokL noTok) from M4.upd UX h47)
    have ZBx := UX.trans B3 hb7
    have ZB : Below w.heap.size w X.drew := ⟨ZBx.os, ZBx.tape, ZBx.output, ZBx.size, ZBx.block⟩
    clear ZBx MX UX M4 B3 M7
    generalize X.drew = Y at *
    go_wp2_with (first
      | (refine wpList_loadP rfl 44 _ rfl rfl Z7 7 (tokL ⟨1, tx, 0, 0, 0, p, p + L⟩) rfl _ Tryd.underlying44 rfl info38 ?_)
      | (refine wpList_storeS rfl 44 _ _ rfl rfl (tokL ⟨1, tx, 0, 0, 0, p, p + L⟩) rfl Z4 (by simp [tokL, noTok]) info38 (tok_one _) ?_; intro V9 U9 NZx; have NZ : IsS V9 b4 44 (tokL ⟨1, tx, 0, 0, 0, p, p + L⟩) := NZx; have BZ := U9.trans ZB hb4; clear U9 Z4 ZB NZx))
    refine ret_STT rfl rfl rfl NZ _ Tryd.underlying44 rfl info38 _ rfl _ rfl ⟨?_, BZ⟩
    rw [HF.out, rtok_ok]; rfl
end Go.Proofs.YtopnbemodlcknaaDoor.Lx
/- The reference's token: numbers. -/
namespace Go.Proofs.YtopnbemodlcknaaDoor.Lx
open Go.RowKit M
set_option linter.unusedSimpArgs false
set_option linter.unusedVariables false

theorem num_over (s : ByteArray) (hs : s.size < 2305843009213693952) (p n : Nat) (hp : p < s.size) (hn : p + n ≤ s.size) (hl : letN s[p].toNat = false) (hb : numB (s.data.toList.drop p) = true) (he : numLen (s.data.toList.drop p) = n) :
    ∃ (T : List UInt8) (v : Int) (er : Nat), s.extract p (p + n) = ⟨T.toArray⟩ ∧ cutF (s.data.toList.drop p) = (if er = 0 then ⟨2, T, v, n, 0⟩ else ⟨0, [], 0, 0, er⟩) ∧ ∀ w, Calls Tryd.prog 33 #[.string (s.extract p (p + n))] w fun e w' => e = .returned (.tuple #[.int .i64 v, .int .i64 (er : Int)]) ∧ w' = w := by
  refine ⟨(s.data.toList.drop p).take n, (parseO ((s.data.toList.drop p).take n)).1, (parseO ((s.data.toList.drop p).take n)).2, by rw [exA, take_drop_add], ?_, fun w => ?_⟩
  · have : cutF (s.data.toList.drop p) = numPiece (s.data.toList.drop p) := (by
      have hb' := hb
      rw [drop_cons s p hp] at hb' ⊢
      unfold cutF
      dsimp only
      rw [if_neg (by rw [hl]; decide), if_pos hb'])
    rw [this, numPiece, he]
  · have := rparse_any (s.extract p (p + n)) (by rw [ByteArray.size_extract]; unfold maxLen; omega) w
    rw [exA] at this ⊢
    rw [take_drop_add] at this ⊢
    simpa [parseV] using this

set_option maxRecDepth 100000 in
set_option maxHeartbeats 8000000 in
theorem rtoken_num0 (s : ByteArray) (hs : s.size < 2305843009213693952) (p : Nat) (hp : p < s.size) (hl : letN s[p].toNat = false) (hb : numB (s.data.toList.drop p) = true) (hd : digN s[p].toNat = true) (w : World) :
    Calls Tryd.prog 23 #[.string s, .int .i64 (p : Int)] w fun e w' => e = .returned (rtokV p (cutF (s.data.toList.drop p))) ∧ Below w.heap.size w w' := by
  have cL := fun w => rletter_any s[p].toNat s[p].toNat_lt w
  rw [hl] at cL
  have cD := fun w => rdigit_any s[p].toNat s[p].toNat_lt w
  rw [hd] at cD
  clear hd
  have HL : Hid (letN s[p].toNat = false) := hl
  have HB : Hid (numB (s.data.toList.drop p) = true) := hb
  have HE0 : Hid (numLen (s.data.toList.drop p) = 1 + twl (fun c => innN c.toNat) (s.data.toList.drop (p + 1))) := (by show numLen _ = _; unfold numLen twl; rw [List.drop_drop])
  clear hl hb
  obtain ⟨C, hCC⟩ : ∃ C, cutF (s.data.toList.drop p) = C := ⟨_, rfl⟩
  have HC : Hid (cutF (s.data.toList.drop p) = C) := hCC
  rw [hCC]
  clear hCC
  have hpi : (p : Int) < s.size := by omega
  have tk : True := trivial
  go_enter Tryd.func23, Tryd.ntmps23
  go_wp2_with (first
    | (refine wpList_allocS rfl 44 rfl (tokL noTok) Tryd.zeroValue44 ?_; clear tk; intro W1 b4 F1 N4; have hb4 : w.heap.size ≤ b4 := Nat.le_of_eq F1.at'.symm; have B1 := F1.trans (Below.refl _ w) (Nat.le_refl _); clear F1)
    | (refine wpList_allocS rfl 44 rfl (tokL noTok) Tryd.zeroValue44 ?_; intro W2 b7 F2 N7; have hb7 : w.heap.size ≤ b7 := Nat.le_trans B1.size (Nat.le_of_eq F2.at'.symm); have h47 : b4 ≠ b7 := (by have := N4.lt; have := F2.at'; omega); have N4b := N4.fresh F2; have B2 := F2.trans B1 B1.size; clear F2 N4 B1)
    | (refine wpList_storeS rfl 44 _ _ rfl rfl (tokL ⟨0, [], 0, 0, 0, p, 0⟩) rfl N7 (by simp [tokL, noTok]) info38 (tok_one _) ?_; intro W3 U3 M7x; have M7 : IsS W3 b7 44 (tokL ⟨0, [], 0, 0, 0, p, 0⟩) := M7x; have M4 := N4b.upd U3 h47; have B3 := U3.trans B2 hb7; clear U3 N7 N4b B2 M7x)
    | (go_at_call 30; refine (cL _).mono ?_; rintro e w' ⟨rfl, hw'⟩; replace hw' := hw'.symm; subst hw')
    | (go_at_call 32; refine (cD _).mono ?_; rintro e w' ⟨rfl, hw'⟩; replace hw' := hw'.symm; subst hw'))
  go_loop [9] (fun t => ∃ n : Nat, 1 ≤ n ∧ p + n ≤ s.size ∧ t = .int .i64 (n : Int) ∧ Hid (numLen (s.data.toList.drop p) = n + twl (fun c => innN c.toNat) (s.data.toList.drop (p + n)))) (fun t => s.size - (intOf t).toNat)
  case atStart => exact ⟨1, by omega, by omega, rfl, HE0⟩
  case round =>
    obtain ⟨n, h1, hn, rfl, HN⟩ := hrel
    clear HE0 cL cD
    have hIe : (p : Int) + n ≤ s.size := by omega
    by_cases hlt : p + n < s.size
    · have hi : (p : Int) + n < s.size := by omega
      have cL1 := fun w => rletter_any s[p + n].toNat s[p + n].toNat_lt w
      have cD1 := fun w => rdigit_any s[p + n].toNat s[p + n].toNat_lt w
      have HG : innN s[p + n].toNat = true → Hid (numLen (s.data.toList.drop p) = n + 1 + twl (fun c => innN c.toNat) (s.data.toList.drop (p + (n + 1)))) := fun h => (by show numLen _ = _; rw [HN.out, twl_go _ s (p + n) hlt h, Nat.add_assoc p n 1]; omega)
      have HS : innN s[p + n].toNat = false → numLen (s.data.toList.drop p) = n := fun h => (by rw [HN.out, twl_stop _ s (p + n) hlt h]; rfl)
      cases a : letN s[p + n].toNat with
      | true =>
        have HG' := HG (by simp [innN, a])
        rw [a] at cL1
        clear a HG HS HN cD1
        go_wp2_with (first
    | (go_at_call 30; refine (cL1 _).mono ?_; rintro e w' ⟨rfl, hw'⟩; replace hw' := hw'.symm; subst hw'))
        go_round
        case rel => exact ⟨n + 1, by omega, by omega, by go_num, HG'⟩
        case measure => simp [intOf]; omega
      | false =>
        cases d : digN s[p + n].toNat with
        | true =>
          have HG' := HG (by simp [innN, a, d])
          rw [a] at cL1
          rw [d] at cD1
          clear a d HG HS HN
          go_wp2_with (first
    | (go_at_call 30; refine (cL1 _).mono ?_; rintro e w' ⟨rfl, hw'⟩; replace hw' := hw'.symm; subst hw')
    | (go_at_call 32; refine (cD1 _).mono ?_; rintro e w' ⟨rfl, hw'⟩; replace hw' := hw'.symm; subst hw'))
          go_round
          case rel => exact ⟨n + 1, by omega, by omega, by go_num, HG'⟩
          case measure => simp [intOf]; omega
        | false =>
          by_cases e46 : s[p + n].toNat = 46
          · have HG' := HG (by simp [innN, e46])
            have f46 : ((s[p + n].toNat : Int) == 46) = true := (by simp; omega)
            rw [a] at cL1
            rw [d] at cD1
            clear a d HG HS HN e46
            go_wp2_with (first
    | (go_at_call 30; refine (cL1 _).mono ?_; rintro e w' ⟨rfl, hw'⟩; replace hw' := hw'.symm; subst hw')
    | (go_at_call 32; refine (cD1 _).mono ?_; rintro e w' ⟨rfl, hw'⟩; replace hw' := hw'.symm; subst hw'))
            go_round
            case rel => exact ⟨n + 1, by omega, by omega, by go_num, HG'⟩
            case measure => simp [intOf]; omega
          · have f46 : ((s[p + n].toNat : Int) == 46) = false := (by simp; omega)
            have hs0 := HS (by simp [innN, a, d, e46])
            rw [a] at cL1
            rw [d] at cD1
            clear a d HG HS e46
            have he : numLen (s.data.toList.drop p) = n := hs0
            obtain ⟨T, v, er, hT, hC, cP⟩ := num_over s hs p n hp hn HL.out HB.out he
            have HTX : Hid (s.extract p (p + n) = ⟨T.toArray⟩) := hT
            clear hT he HN
            by_cases hez : er = 0
            · subst hez
              have HF : Hid (C = ⟨2, T, v, n, 0⟩) := (by show _ = _; rw [← HC.out, hC, if_pos rfl])
              clear hC HC HL HB
              go_wp2_with (first
                | (go_at_call 30; refine (cL1 _).mono ?_; rintro e w' ⟨rfl, hw'⟩; replace hw' := hw'.symm; subst hw')
                | (go_at_call 32; refine (cD1 _).mono ?_; rintro e w' ⟨rfl, hw'⟩; replace hw' := hw'.symm; subst hw')
                | (go_at_call 33; refine (cP _).mono ?_; rintro e w' ⟨rfl, hw'⟩; replace hw' := hw'.symm; subst hw'))
              have t0 : W3.cell? ⟨b7, 0, none⟩ = some (.int .i64 0) := M7.cell 0
              have r0 := M7.frozen 0
              have t1 : W3.cell? ⟨b7, 1, none⟩ = some (.string ⟨#[]⟩) := M7.cell 1
              have r1 := M7.frozen 1
              have t2 : W3.cell? ⟨b7, 2, none⟩ = some (.int .i64 0) := M7.cell 2
              have r2 := M7.frozen 2
              have t6 : W3.cell? ⟨b7, 6, none⟩ = some (.int .i64 0) := M7.cell 6
              have r6 := M7.frozen 6
              go_region
              have MX := ((((M7.set1 0 (.int .i64 2)).set1 1 (.string (s.extract p (p + n)))).set1 2 (.int .i64 v)).set1 6 (.int .i64 ((p : Int) + n)))
              have UX := ((((Upd.setCell W3 b7 0 (.int .i64 2)).comp (Upd.setCell _ b7 1 (.string (s.extract p (p + n))))).comp (Upd.setCell _ b7 2 (.int .i64 v))).comp (Upd.setCell _ b7 6 (.int .i64 ((p : Int) + n))))
              clear t0 r0 t1 r1 t2 r2 t6 r6
              generalize ((((W3.setCell ⟨b7, 0, none⟩ (.int .i64 2)).setCell ⟨b7, 1, none⟩ (.string (s.extract p (p + n)))).setCell ⟨b7, 2, none⟩ (.int .i64 v)).setCell ⟨b7, 6, none⟩ (.int .i64 ((p : Int) + n))) = X at MX UX ⊢
              rw [HTX.out] at MX
              have Z7 : IsS X.drew b7 44 (tokL ⟨2, T, v, 0, 0, p, p + n⟩) := (by have := MX; simp only [tokL] at this ⊢; rw [Int.natCast_add]; exact this)
              have Z4 : IsS X.drew b4 44 (tokL noTok) := (show IsS X b4 44 (tokL noTok) from M4.upd UX h47)
              have ZBx := UX.trans B3 hb7
              have ZB : Below w.heap.size w X.drew := ⟨ZBx.os, ZBx.tape, ZBx.output, ZBx.size, ZBx.block⟩
              clear ZBx MX UX M4 B3 M7
              generalize X.drew = Y at *
              go_wp2_with (first
                | (refine wpList_loadP rfl 44 _ rfl rfl Z7 7 (tokL ⟨2, T, v, 0, 0, p, p + n⟩) rfl _ Tryd.underlying44 rfl info38 ?_)
                | (refine wpList_storeS rfl 44 _ _ rfl rfl (tokL ⟨2, T, v, 0, 0, p, p + n⟩) rfl Z4 (by simp [tokL, noTok]) info38 (tok_one _) ?_; intro V9 U9 NZx; have NZ : IsS V9 b4 44 (tokL ⟨2, T, v, 0, 0, p, p + n⟩) := NZx; have BZ := U9.trans ZB hb4; clear U9 Z4 ZB NZx))
              refine ret_STT rfl rfl rfl NZ _ Tryd.underlying44 rfl info38 _ rfl _ rfl ⟨?_, BZ⟩
              rw [HF.out, rtok_ok]; rfl
            · have HF : Hid (C = ⟨0, [], 0, 0, er⟩) := (by show _ = _; rw [← HC.out, hC, if_neg hez])
              have hz1 : ((er : Int) == 0) = false := (by simp; omega)
              have hz2 : ((er : Int) != 0) = true := (by simp; omega)
              clear hC HC HL HB
              go_wp2_with (first
                | (go_at_call 30; refine (cL1 _).mono ?_; rintro e w' ⟨rfl, hw'⟩; replace hw' := hw'.symm; subst hw')
                | (go_at_call 32; refine (cD1 _).mono ?_; rintro e w' ⟨rfl, hw'⟩; replace hw' := hw'.symm; subst hw')
                | (go_at_call 33; refine (cP _).mono ?_; rintro e w' ⟨rfl, hw'⟩; replace hw' := hw'.symm; subst hw')
                | (refine wpList_storeS rfl 44 _ _ rfl rfl (tokL noTok) rfl M4 (by simp [tokL, noTok]) info38 (tok_one _) ?_; intro V9 U9 NZx; have NZ : IsS V9 b4 44 (tokL noTok) := NZx; have BZ := U9.trans B3 hb4; clear U9 M4 B3 NZx))
              refine ret_STT rfl rfl rfl NZ _ Tryd.underlying44 rfl info38 _ rfl _ rfl ⟨?_, BZ⟩
              rw [HF.out, rtok_bad p 0 [] 0 0 er (by omega)]; rfl
    · have hi : ¬ (p : Int) + n < s.size := by omega
      have he : numLen (s.data.toList.drop p) = n := (by rw [HN.out, drop_end s (p + n) (by omega)]; rfl)
      obtain ⟨T, v, er, hT, hC, cP⟩ := num_over s hs p n hp hn HL.out HB.out he
      have HTX : Hid (s.extract p (p + n) = ⟨T.toArray⟩) := hT
      clear hT he HN
      by_cases hez : er = 0
      · subst hez
        have HF : Hid (C = ⟨2, T, v, n, 0⟩) := (by show _ = _; rw [← HC.out, hC, if_pos rfl])
        clear hC HC HL HB
        go_wp2_with (first
          | (go_at_call 33; refine (cP _).mono ?_; rintro e w' ⟨rfl, hw'⟩; replace hw' := hw'.symm; subst hw'))
        have t0 : W3.cell? ⟨b7, 0, none⟩ = some (.int .i64 0) := M7.cell 0
        have r0 := M7.frozen 0
        have t1 : W3.cell? ⟨b7, 1, none⟩ = some (.string ⟨#[]⟩) := M7.cell 1
        have r1 := M7.frozen 1
        have t2 : W3.cell? ⟨b7, 2, none⟩ = some (.int .i64 0) := M7.cell 2
        have r2 := M7.frozen 2
        have t6 : W3.cell? ⟨b7, 6, none⟩ = some (.int .i64 0) := M7.cell 6
        have r6 := M7.frozen 6
        go_region
        have MX := ((((M7.set1 0 (.int .i64 2)).set1 1 (.string (s.extract p (p + n)))).set1 2 (.int .i64 v)).set1 6 (.int .i64 ((p : Int) + n)))
        have UX := ((((Upd.setCell W3 b7 0 (.int .i64 2)).comp (Upd.setCell _ b7 1 (.string (s.extract p (p + n))))).comp (Upd.setCell _ b7 2 (.int .i64 v))).comp (Upd.setCell _ b7 6 (.int .i64 ((p : Int) + n))))
        clear t0 r0 t1 r1 t2 r2 t6 r6
        generalize ((((W3.setCell ⟨b7, 0, none⟩ (.int .i64 2)).setCell ⟨b7, 1, none⟩ (.string (s.extract p (p + n)))).setCell ⟨b7, 2, none⟩ (.int .i64 v)).setCell ⟨b7, 6, none⟩ (.int .i64 ((p : Int) + n))) = X at MX UX ⊢
        rw [HTX.out] at MX
        have Z7 : IsS X.drew b7 44 (tokL ⟨2, T, v, 0, 0, p, p + n⟩) := (by have := MX; simp only [tokL] at this ⊢; rw [Int.natCast_add]; exact this)
        have Z4 : IsS X.drew b4 44 (tokL noTok) := (show IsS X b4 44 (tokL noTok) from M4.upd UX h47)
        have ZBx := UX.trans B3 hb7
        have ZB : Below w.heap.size w X.drew := ⟨ZBx.os, ZBx.tape, ZBx.output, ZBx.size, ZBx.block⟩
        clear ZBx MX UX M4 B3 M7
        generalize X.drew = Y at *
        go_wp2_with (first
          | (refine wpList_loadP rfl 44 _ rfl rfl Z7 7 (tokL ⟨2, T, v, 0, 0, p, p + n⟩) rfl _ Tryd.underlying44 rfl info38 ?_)
          | (refine wpList_storeS rfl 44 _ _ rfl rfl (tokL ⟨2, T, v, 0, 0, p, p + n⟩) rfl Z4 (by simp [tokL, noTok]) info38 (tok_one _) ?_; intro V9 U9 NZx; have NZ : IsS V9 b4 44 (tokL ⟨2, T, v, 0, 0, p, p + n⟩) := NZx; have BZ := U9.trans ZB hb4; clear U9 Z4 ZB NZx))
        refine ret_STT rfl rfl rfl NZ _ Tryd.underlying44 rfl info38 _ rfl _ rfl ⟨?_, BZ⟩
        rw [HF.out, rtok_ok]; rfl
      · have HF : Hid (C = ⟨0, [], 0, 0, er⟩) := (by show _ = _; rw [← HC.out, hC, if_neg hez])
        have hz1 : ((er : Int) == 0) = false := (by simp; omega)
        have hz2 : ((er : Int) != 0) = true := (by simp; omega)
        clear hC HC HL HB
        go_wp2_with (first
          | (go_at_call 33; refine (cP _).mono ?_; rintro e w' ⟨rfl, hw'⟩; replace hw' := hw'.symm; subst hw')
          | (refine wpList_storeS rfl 44 _ _ rfl rfl (tokL noTok) rfl M4 (by simp [tokL, noTok]) info38 (tok_one _) ?_; intro V9 U9 NZx; have NZ : IsS V9 b4 44 (tokL noTok) := NZx; have BZ := U9.trans B3 hb4; clear U9 M4 B3 NZx))
        refine ret_STT rfl rfl rfl NZ _ Tryd.underlying44 rfl info38 _ rfl _ rfl ⟨?_, BZ⟩
        rw [HF.out, rtok_bad p 0 [] 0 0 er (by omega)]; rfl

set_option maxRecDepth 100000 in
set_option maxHeartbeats 8000000 in
theorem rtoken_num1 (s : ByteArray) (hs : s.size < 2305843009213693952) (p : Nat) (hp : p < s.size) (hl : letN s[p].toNat = false) (hb : numB (s.data.toList.drop p) = true) (hd : digN s[p].toNat = false) (h45 : s[p].toNat = 45) (hp1 : p + 1 < s.size) (hd1 : digN s[p + 1].toNat = true) (w : World) :
    Calls Tryd.prog 23 #[.string s, .int .i64 (p : Int)] w fun e w' => e = .returned (rtokV p (cutF (s.data.toList.drop p))) ∧ Below w.heap.size w w' := by
  have cL := fun w => rletter_any s[p].toNat s[p].toNat_lt w
  rw [hl] at cL
  have cD := fun w => rdigit_any s[p].toNat s[p].toNat_lt w
  rw [hd] at cD
  have cE := fun w => rdigit_any s[p + 1].toNat s[p + 1].toNat_lt w
  rw [hd1] at cE
  have f45 : ((s[p].toNat : Int) == 45) = true := (by simp; omega)
  have hpi1 : (p : Int) + 1 < s.size := by omega
  clear hd hd1 h45
  have HL : Hid (letN s[p].toNat = false) := hl
  have HB : Hid (numB (s.data.toList.drop p) = true) := hb
  have HE0 : Hid (numLen (s.data.toList.drop p) = 1 + twl (fun c => innN c.toNat) (s.data.toList.drop (p + 1))) := (by show numLen _ = _; unfold numLen twl; rw [List.drop_drop])
  clear hl hb
  obtain ⟨C, hCC⟩ : ∃ C, cutF (s.data.toList.drop p) = C := ⟨_, rfl⟩
  have HC : Hid (cutF (s.data.toList.drop p) = C) := hCC
  rw [hCC]
  clear hCC
  have hpi : (p : Int) < s.size := by omega
  have tk : True := trivial
  go_enter Tryd.func23, Tryd.ntmps23
  go_wp2_with (first
    | (refine wpList_allocS rfl 44 rfl (tokL noTok) Tryd.zeroValue44 ?_; clear tk; intro W1 b4 F1 N4; have hb4 : w.heap.size ≤ b4 := Nat.le_of_eq F1.at'.symm; have B1 := F1.trans (Below.refl _ w) (Nat.le_refl _); clear F1)
    | (refine wpList_allocS rfl 44 rfl (tokL noTok) Tryd.zeroValue44 ?_; intro W2 b7 F2 N7; have hb7 : w.heap.size ≤ b7 := Nat.le_trans B1.size (Nat.le_of_eq F2.at'.symm); have h47 : b4 ≠ b7 := (by have := N4.lt; have := F2.at'; omega); have N4b := N4.fresh F2; have B2 := F2.trans B1 B1.size; clear F2 N4 B1)
    | (refine wpList_storeS rfl 44 _ _ rfl rfl (tokL ⟨0, [], 0, 0, 0, p, 0⟩) rfl N7 (by simp [tokL, noTok]) info38 (tok_one _) ?_; intro W3 U3 M7x; have M7 : IsS W3 b7 44 (tokL ⟨0, [], 0, 0, 0, p, 0⟩) := M7x; have M4 := N4b.upd U3 h47; have B3 := U3.trans B2 hb7; clear U3 N7 N4b B2 M7x)
    | (go_at_call 30; refine (cL _).mono ?_; rintro e w' ⟨rfl, hw'⟩; replace hw' := hw'.symm; subst hw')
    | (go_at_call 32; refine (cD _).mono ?_; rintro e w' ⟨rfl, hw'⟩; replace hw' := hw'.symm; subst hw')
    | (go_at_call 32; refine (cE _).mono ?_; rintro e w' ⟨rfl, hw'⟩; replace hw' := hw'.symm; subst hw'))
  go_loop [9] (fun t => ∃ n : Nat, 1 ≤ n ∧ p + n ≤ s.size ∧ t = .int .i64 (n : Int) ∧ Hid (numLen (s.data.toList.drop p) = n + twl (fun c => innN c.toNat) (s.data.toList.drop (p + n)))) (fun t => s.size - (intOf t).toNat)
  case atStart => exact ⟨1, by omega, by omega, rfl, HE0⟩
  case round =>
    obtain ⟨n, h1, hn, rfl, HN⟩ := hrel
    clear HE0 cL cD cE f45
    have hIe : (p : Int) + n ≤ s.size := by omega
    by_cases hlt : p + n < s.size
    · have hi : (p : Int) + n < s.size := by omega
      have cL1 := fun w => rletter_any s[p + n].toNat s[p + n].toNat_lt w
      have cD1 := fun w => rdigit_any s[p + n].toNat s[p + n].toNat_lt w
      have HG : innN s[p + n].toNat = true → Hid (numLen (s.data.toList.drop p) = n + 1 + twl (fun c => innN c.toNat) (s.data.toList.drop (p + (n + 1)))) := fun h => (by show numLen _ = _; rw [HN.out, twl_go _ s (p + n) hlt h, Nat.add_assoc p n 1]; omega)
      have HS : innN s[p + n].toNat = false → numLen (s.data.toList.drop p) = n := fun h => (by rw [HN.out, twl_stop _ s (p + n) hlt h]; rfl)
      cases a : letN s[p + n].toNat with
      | true =>
        have HG' := HG (by simp [innN, a])
        rw [a] at cL1
        clear a HG HS HN cD1
        go_wp2_with (first
    | (go_at_call 30; refine (cL1 _).mono ?_; rintro e w' ⟨rfl, hw'⟩; replace hw' := hw'.symm; subst hw'))
        go_round
        case rel => exact ⟨n + 1, by omega, by omega, by go_num, HG'⟩
        case measure => simp [intOf]; omega
      | false =>
        cases d : digN s[p + n].toNat with
        | true =>
          have HG' := HG (by simp [innN, a, d])
          rw [a] at cL1
          rw [d] at cD1
          clear a d HG HS HN
          go_wp2_with (first
    | (go_at_call 30; refine (cL1 _).mono ?_; rintro e w' ⟨rfl, hw'⟩; replace hw' := hw'.symm; subst hw')
    | (go_at_call 32; refine (cD1 _).mono ?_; rintro e w' ⟨rfl, hw'⟩; replace hw' := hw'.symm; subst hw'))
          go_round
          case rel => exact ⟨n + 1, by omega, by omega, by go_num, HG'⟩
          case measure => simp [intOf]; omega
        | false =>
          by_cases e46 : s[p + n].toNat = 46
          · have HG' := HG (by simp [innN, e46])
            have f46 : ((s[p + n].toNat : Int) == 46) = true := (by simp; omega)
            rw [a] at cL1
            rw [d] at cD1
            clear a d HG HS HN e46
            go_wp2_with (first
    | (go_at_call 30; refine (cL1 _).mono ?_; rintro e w' ⟨rfl, hw'⟩; replace hw' := hw'.symm; subst hw')
    | (go_at_call 32; refine (cD1 _).mono ?_; rintro e w' ⟨rfl, hw'⟩; replace hw' := hw'.symm; subst hw'))
            go_round
            case rel => exact ⟨n + 1, by omega, by omega, by go_num, HG'⟩
            case measure => simp [intOf]; omega
          · have f46 : ((s[p + n].toNat : Int) == 46) = false := (by simp; omega)
            have hs0 := HS (by simp [innN, a, d, e46])
            rw [a] at cL1
            rw [d] at cD1
            clear a d HG HS e46
            have he : numLen (s.data.toList.drop p) = n := hs0
            obtain ⟨T, v, er, hT, hC, cP⟩ := num_over s hs p n hp hn HL.out HB.out he
            have HTX : Hid (s.extract p (p + n) = ⟨T.toArray⟩) := hT
            clear hT he HN
            by_cases hez : er = 0
            · subst hez
              have HF : Hid (C = ⟨2, T, v, n, 0⟩) := (by show _ = _; rw [← HC.out, hC, if_pos rfl])
              clear hC HC HL HB
              go_wp2_with (first
                | (go_at_call 30; refine (cL1 _).mono ?_; rintro e w' ⟨rfl, hw'⟩; replace hw' := hw'.symm; subst hw')
                | (go_at_call 32; refine (cD1 _).mono ?_; rintro e w' ⟨rfl, hw'⟩; replace hw' := hw'.symm; subst hw')
                | (go_at_call 33; refine (cP _).mono ?_; rintro e w' ⟨rfl, hw'⟩; replace hw' := hw'.symm; subst hw'))
              have t0 : W3.cell? ⟨b7, 0, none⟩ = some (.int .i64 0) := M7.cell 0
              have r0 := M7.frozen 0
              have t1 : W3.cell? ⟨b7, 1, none⟩ = some (.string ⟨#[]⟩) := M7.cell 1
              have r1 := M7.frozen 1
              have t2 : W3.cell? ⟨b7, 2, none⟩ = some (.int .i64 0) := M7.cell 2
              have r2 := M7.frozen 2
              have t6 : W3.cell? ⟨b7, 6, none⟩ = some (.int .i64 0) := M7.cell 6
              have r6 := M7.frozen 6
              go_region
              have MX := ((((M7.set1 0 (.int .i64 2)).set1 1 (.string (s.extract p (p + n)))).set1 2 (.int .i64 v)).set1 6 (.int .i64 ((p : Int) + n)))
              have UX := ((((Upd.setCell W3 b7 0 (.int .i64 2)).comp (Upd.setCell _ b7 1 (.string (s.extract p (p + n))))).comp (Upd.setCell _ b7 2 (.int .i64 v))).comp (Upd.setCell _ b7 6 (.int .i64 ((p : Int) + n))))
              clear t0 r0 t1 r1 t2 r2 t6 r6
              generalize ((((W3.setCell ⟨b7, 0, none⟩ (.int .i64 2)).setCell ⟨b7, 1, none⟩ (.string (s.extract p (p + n)))).setCell ⟨b7, 2, none⟩ (.int .i64 v)).setCell ⟨b7, 6, none⟩ (.int .i64 ((p : Int) + n))) = X at MX UX ⊢
              rw [HTX.out] at MX
              have Z7 : IsS X.drew b7 44 (tokL ⟨2, T, v, 0, 0, p, p + n⟩) := (by have := MX; simp only [tokL] at this ⊢; rw [Int.natCast_add]; exact this)
              have Z4 : IsS X.drew b4 44 (tokL noTok) := (show IsS X b4 44 (tokL noTok) from M4.upd UX h47)
              have ZBx := UX.trans B3 hb7
              have ZB : Below w.heap.size w X.drew := ⟨ZBx.os, ZBx.tape, ZBx.output, ZBx.size, ZBx.block⟩
              clear ZBx MX UX M4 B3 M7
              generalize X.drew = Y at *
              go_wp2_with (first
                | (refine wpList_loadP rfl 44 _ rfl rfl Z7 7 (tokL ⟨2, T, v, 0, 0, p, p + n⟩) rfl _ Tryd.underlying44 rfl info38 ?_)
                | (refine wpList_storeS rfl 44 _ _ rfl rfl (tokL ⟨2, T, v, 0, 0, p, p + n⟩) rfl Z4 (by simp [tokL, noTok]) info38 (tok_one _) ?_; intro V9 U9 NZx; have NZ : IsS V9 b4 44 (tokL ⟨2, T, v, 0, 0, p, p + n⟩) := NZx; have BZ := U9.trans ZB hb4; clear U9 Z4 ZB NZx))
              refine ret_STT rfl rfl rfl NZ _ Tryd.underlying44 rfl info38 _ rfl _ rfl ⟨?_, BZ⟩
              rw [HF.out, rtok_ok]; rfl
            · have HF : Hid (C = ⟨0, [], 0, 0, er⟩) := (by show _ = _; rw [← HC.out, hC, if_neg hez])
              have hz1 : ((er : Int) == 0) = false := (by simp; omega)
              have hz2 : ((er : Int) != 0) = true := (by simp; omega)
              clear hC HC HL HB
              go_wp2_with (first
                | (go_at_call 30; refine (cL1 _).mono ?_; rintro e w' ⟨rfl, hw'⟩; replace hw' := hw'.symm; subst hw')
                | (go_at_call 32; refine (cD1 _).mono ?_; rintro e w' ⟨rfl, hw'⟩; replace hw' := hw'.symm; subst hw')
                | (go_at_call 33; refine (cP _).mono ?_; rintro e w' ⟨rfl, hw'⟩; replace hw' := hw'.symm; subst hw')
                | (refine wpList_storeS rfl 44 _ _ rfl rfl (tokL noTok) rfl M4 (by simp [tokL, noTok]) info38 (tok_one _) ?_; intro V9 U9 NZx; have NZ : IsS V9 b4 44 (tokL noTok) := NZx; have BZ := U9.trans B3 hb4; clear U9 M4 B3 NZx))
              refine ret_STT rfl rfl rfl NZ _ Tryd.underlying44 rfl info38 _ rfl _ rfl ⟨?_, BZ⟩
              rw [HF.out, rtok_bad p 0 [] 0 0 er (by omega)]; rfl
    · have hi : ¬ (p : Int) + n < s.size := by omega
      have he : numLen (s.data.toList.drop p) = n := (by rw [HN.out, drop_end s (p + n) (by omega)]; rfl)
      obtain ⟨T, v, er, hT, hC, cP⟩ := num_over s hs p n hp hn HL.out HB.out he
      have HTX : Hid (s.extract p (p + n) = ⟨T.toArray⟩) := hT
      clear hT he HN
      by_cases hez : er = 0
      · subst hez
        have HF : Hid (C = ⟨2, T, v, n, 0⟩) := (by show _ = _; rw [← HC.out, hC, if_pos rfl])
        clear hC HC HL HB
        go_wp2_with (first
          | (go_at_call 33; refine (cP _).mono ?_; rintro e w' ⟨rfl, hw'⟩; replace hw' := hw'.symm; subst hw'))
        have t0 : W3.cell? ⟨b7, 0, none⟩ = some (.int .i64 0) := M7.cell 0
        have r0 := M7.frozen 0
        have t1 : W3.cell? ⟨b7, 1, none⟩ = some (.string ⟨#[]⟩) := M7.cell 1
        have r1 := M7.frozen 1
        have t2 : W3.cell? ⟨b7, 2, none⟩ = some (.int .i64 0) := M7.cell 2
        have r2 := M7.frozen 2
        have t6 : W3.cell? ⟨b7, 6, none⟩ = some (.int .i64 0) := M7.cell 6
        have r6 := M7.frozen 6
        go_region
        have MX := ((((M7.set1 0 (.int .i64 2)).set1 1 (.string (s.extract p (p + n)))).set1 2 (.int .i64 v)).set1 6 (.int .i64 ((p : Int) + n)))
        have UX := ((((Upd.setCell W3 b7 0 (.int .i64 2)).comp (Upd.setCell _ b7 1 (.string (s.extract p (p + n))))).comp (Upd.setCell _ b7 2 (.int .i64 v))).comp (Upd.setCell _ b7 6 (.int .i64 ((p : Int) + n))))
        clear t0 r0 t1 r1 t2 r2 t6 r6
        generalize ((((W3.setCell ⟨b7, 0, none⟩ (.int .i64 2)).setCell ⟨b7, 1, none⟩ (.string (s.extract p (p + n)))).setCell ⟨b7, 2, none⟩ (.int .i64 v)).setCell ⟨b7, 6, none⟩ (.int .i64 ((p : Int) + n))) = X at MX UX ⊢
        rw [HTX.out] at MX
        have Z7 : IsS X.drew b7 44 (tokL ⟨2, T, v, 0, 0, p, p + n⟩) := (by have := MX; simp only [tokL] at this ⊢; rw [Int.natCast_add]; exact this)
        have Z4 : IsS X.drew b4 44 (tokL noTok) := (show IsS X b4 44 (tokL noTok) from M4.upd UX h47)
        have ZBx := UX.trans B3 hb7
        have ZB : Below w.heap.size w X.drew := ⟨ZBx.os, ZBx.tape, ZBx.output, ZBx.size, ZBx.block⟩
        clear ZBx MX UX M4 B3 M7
        generalize X.drew = Y at *
        go_wp2_with (first
          | (refine wpList_loadP rfl 44 _ rfl rfl Z7 7 (tokL ⟨2, T, v, 0, 0, p, p + n⟩) rfl _ Tryd.underlying44 rfl info38 ?_)
          | (refine wpList_storeS rfl 44 _ _ rfl rfl (tokL ⟨2, T, v, 0, 0, p, p + n⟩) rfl Z4 (by simp [tokL, noTok]) info38 (tok_one _) ?_; intro V9 U9 NZx; have NZ : IsS V9 b4 44 (tokL ⟨2, T, v, 0, 0, p, p + n⟩) := NZx; have BZ := U9.trans ZB hb4; clear U9 Z4 ZB NZx))
        refine ret_STT rfl rfl rfl NZ _ Tryd.underlying44 rfl info38 _ rfl _ rfl ⟨?_, BZ⟩
        rw [HF.out, rtok_ok]; rfl
      · have HF : Hid (C = ⟨0, [], 0, 0, er⟩) := (by show _ = _; rw [← HC.out, hC, if_neg hez])
        have hz1 : ((er : Int) == 0) = false := (by simp; omega)
        have hz2 : ((er : Int) != 0) = true := (by simp; omega)
        clear hC HC HL HB
        go_wp2_with (first
          | (go_at_call 33; refine (cP _).mono ?_; rintro e w' ⟨rfl, hw'⟩; replace hw' := hw'.symm; subst hw')
          | (refine wpList_storeS rfl 44 _ _ rfl rfl (tokL noTok) rfl M4 (by simp [tokL, noTok]) info38 (tok_one _) ?_; intro V9 U9 NZx; have NZ : IsS V9 b4 44 (tokL noTok) := NZx; have BZ := U9.trans B3 hb4; clear U9 M4 B3 NZx))
        refine ret_STT rfl rfl rfl NZ _ Tryd.underlying44 rfl info38 _ rfl _ rfl ⟨?_, BZ⟩
        rw [HF.out, rtok_bad p 0 [] 0 0 er (by omega)]; rfl
end Go.Proofs.YtopnbemodlcknaaDoor.Lx
/- The reference's token: texts between quotes, signs; token whole. -/
namespace Go.Proofs.YtopnbemodlcknaaDoor.Lx
open Go.RowKit M
set_option linter.unusedSimpArgs false
set_option linter.unusedVariables false

theorem quot_over (s : ByteArray) (p k : Nat) (hp : p < s.size) (hk : p + 1 ≤ k) (hks : k ≤ s.size) (hl : letN s[p].toNat = false) (hb : numB (s.data.toList.drop p) = false) (h34 : s[p].toNat = 34) (he : p + quotLen (s.data.toList.drop p) = k) :
    (∀ h : k < s.size, s[k].toNat = 34 → ∃ T : List UInt8, s.extract (p + 1) k = ⟨T.toArray⟩ ∧ cutF (s.data.toList.drop p) = ⟨3, T, 0, k - p + 1, 0⟩) ∧ ((∀ h : k < s.size, s[k].toNat ≠ 34) → cutF (s.data.toList.drop p) = ⟨0, [], 0, k - p, 50⟩) := by
  have hC : cutF (s.data.toList.drop p) = quotPiece (s.data.toList.drop p) := (by
    have hb' := hb
    rw [drop_cons s p hp] at hb' ⊢
    unfold cutF
    dsimp only
    rw [if_neg (by rw [hl]; decide), if_neg (by rw [hb']; decide), if_pos h34])
  have hn : quotLen (s.data.toList.drop p) = k - p := by omega
  have hg : (s.data.toList.drop p)[k - p]? = s.data.toList[k]? := (by rw [List.getElem?_drop]; congr 1; omega)
  constructor
  · intro h hq
    refine ⟨((s.data.toList.drop p).take (k - p)).drop 1, ?_, ?_⟩
    · rw [exA]
      congr 2
      rw [show k - p = k - p from rfl, ← List.drop_take, List.drop_drop]
    · rw [hC]
      exact quot_ok hn (by rw [hg]; exact getL s k h) hq
  · intro h
    rw [hC]
    refine quot_bad hn (fun c hc => ?_)
    rw [hg] at hc
    rcases Nat.lt_or_ge k s.size with hlt | hge
    · rw [getL s k hlt] at hc
      cases hc
      exact h hlt
    · rw [List.getElem?_eq_none (by rw [← sizeL]; exact hge)] at hc
      cases hc
theorem sign_over (s : ByteArray) (hs : s.size < 2305843009213693952) (p : Nat) (hp : p < s.size) (hl : letN s[p].toNat = false) (hb : numB (s.data.toList.drop p) = false) (h34 : s[p].toNat ≠ 34) :
    ∃ r : ByteArray, cutF (s.data.toList.drop p) = (if r.toList.isEmpty = true then ⟨0, [], 0, 0, 50⟩ else ⟨4, r.data.toList, 0, r.size, 0⟩) ∧ p + r.size ≤ s.size ∧ ∀ w, Calls Tryd.prog 34 #[.string s, .int .i64 (p : Int)] w fun e w' => e = .returned (.string r) ∧ Below w.heap.size w w' := by
  have hC : cutF (s.data.toList.drop p) = signPiece (s.data.toList.drop p) := (by
    have hb' := hb
    rw [drop_cons s p hp] at hb' ⊢
    unfold cutF
    dsimp only
    rw [if_neg (by rw [hl]; decide), if_neg (by rw [hb']; decide), if_neg h34])
  have hle := signLen_le (s.data.toList.drop p)
  have hlen : ((s.data.toList.drop p).take (signLen (s.data.toList.drop p))).length = signLen (s.data.toList.drop p) := (by rw [List.length_take]; omega)
  have hsz : (ByteArray.mk ((s.data.toList.drop p).take (signLen (s.data.toList.drop p))).toArray).size = signLen (s.data.toList.drop p) := (by rw [sizeL]; exact hlen)
  refine ⟨⟨((s.data.toList.drop p).take (signLen (s.data.toList.drop p))).toArray⟩, ?_, ?_, fun w => rsign_any s hs p hp w⟩
  · rw [hC, signPiece, hsz]
    by_cases h0 : signLen (s.data.toList.drop p) = 0
    · rw [if_pos h0, if_pos]
      refine emp_t ?_
      show (s.data.toList.drop p).take (signLen (s.data.toList.drop p)) = []
      rw [h0]; rfl
    · rw [if_neg h0, if_neg]
      rw [emp_f (by
        show (s.data.toList.drop p).take (signLen (s.data.toList.drop p)) ≠ []
        intro e
        rw [e] at hlen
        exact h0 hlen.symm)]
      decide
  · rw [hsz]
    rw [List.length_drop, ← sizeL] at hle
    omega

set_option maxRecDepth 100000 in
set_option maxHeartbeats 4000000 in
theorem rtoken_quot (s : ByteArray) (hs : s.size < 2305843009213693952) (p : Nat) (hp : p < s.size) (hl : letN s[p].toNat = false) (hb : numB (s.data.toList.drop p) = false) (hd : digN s[p].toNat = false) (h34 : s[p].toNat = 34) (w : World) :
    Calls Tryd.prog 23 #[.string s, .int .i64 (p : Int)] w fun e w' => e = .returned (rtokV p (cutF (s.data.toList.drop p))) ∧ Below w.heap.size w w' := by
  have cL := fun w => rletter_any s[p].toNat s[p].toNat_lt w
  rw [hl] at cL
  have cD := fun w => rdigit_any s[p].toNat s[p].toNat_lt w
  rw [hd] at cD
  have f45 : ((s[p].toNat : Int) == 45) = false := (by simp; omega)
  have f34 : ((s[p].toNat : Int) == 34) = true := (by simp; omega)
  have over := fun (k : Nat) (h1 : p + 1 ≤ k) (h2 : k ≤ s.size) (h3 : p + quotLen (s.data.toList.drop p) = k) => quot_over s p k hp h1 h2 hl hb h34 h3
  have OV : Hid (∀ (k : Nat) (h1 : p + 1 ≤ k) (h2 : k ≤ s.size) (h3 : p + quotLen (s.data.toList.drop p) = k), _) := over
  clear over hl hb hd h34
  have HE0 : Hid (p + quotLen (s.data.toList.drop p) = (p + 1) + twl (fun c => decide (c.toNat ≠ 34 ∧ c.toNat ≠ 10)) (s.data.toList.drop (p + 1))) := (by show _ = _; unfold quotLen twl; rw [List.drop_drop]; omega)
  obtain ⟨C, hCC⟩ : ∃ C, cutF (s.data.toList.drop p) = C := ⟨_, rfl⟩
  have HC : Hid (cutF (s.data.toList.drop p) = C) := hCC
  rw [hCC]
  clear hCC
  have hpi : (p : Int) < s.size := by omega
  have tk : True := trivial
  go_enter Tryd.func23, Tryd.ntmps23
  go_wp2_with (first
    | (refine wpList_allocS rfl 44 rfl (tokL noTok) Tryd.zeroValue44 ?_; clear tk; intro W1 b4 F1 N4; have hb4 : w.heap.size ≤ b4 := Nat.le_of_eq F1.at'.symm; have B1 := F1.trans (Below.refl _ w) (Nat.le_refl _); clear F1)
    | (refine wpList_allocS rfl 44 rfl (tokL noTok) Tryd.zeroValue44 ?_; intro W2 b7 F2 N7; have hb7 : w.heap.size ≤ b7 := Nat.le_trans B1.size (Nat.le_of_eq F2.at'.symm); have h47 : b4 ≠ b7 := (by have := N4.lt; have := F2.at'; omega); have N4b := N4.fresh F2; have B2 := F2.trans B1 B1.size; clear F2 N4 B1)
    | (refine wpList_storeS rfl 44 _ _ rfl rfl (tokL ⟨0, [], 0, 0, 0, p, 0⟩) rfl N7 (by simp [tokL, noTok]) info38 (tok_one _) ?_; intro W3 U3 M7x; have M7 : IsS W3 b7 44 (tokL ⟨0, [], 0, 0, 0, p, 0⟩) := M7x; have M4 := N4b.upd U3 h47; have B3 := U3.trans B2 hb7; clear U3 N7 N4b B2 M7x)
    | (go_at_call 30; refine (cL _).mono ?_; rintro e w' ⟨rfl, hw'⟩; replace hw' := hw'.symm; subst hw')
    | (go_at_call 32; refine (cD _).mono ?_; rintro e w' ⟨rfl, hw'⟩; replace hw' := hw'.symm; subst hw'))
  go_loop [12] (fun t => ∃ k : Nat, p + 1 ≤ k ∧ k ≤ s.size ∧ t = .int .i64 (k : Int) ∧ Hid (p + quotLen (s.data.toList.drop p) = k + twl (fun c => decide (c.toNat ≠ 34 ∧ c.toNat ≠ 10)) (s.data.toList.drop k))) (fun t => s.size - (intOf t).toNat)
  case atStart => exact ⟨p + 1, by omega, by omega, by go_num, HE0⟩
  case round =>
    obtain ⟨k, h1, hk, rfl, HN⟩ := hrel
    clear HE0 cL cD f45 f34
    have hIe : (k : Int) ≤ s.size := by omega
    have hIp : (p : Int) + 1 ≤ k := by omega
    by_cases hlt : k < s.size
    · have hi : (k : Int) < s.size := by omega
      have hne : ((k : Int) == s.size) = false := (by simp; omega)
      by_cases q : s[k].toNat = 34
      · have x : ((s[k].toNat : Int) == 34) = true := (by simp; omega)
        have x' : ((s[k].toNat : Int) != 34) = false := (by simp; omega)
        have y : ((s[k].toNat : Int) == 10) = false := (by simp; omega)
        obtain ⟨T, hT, hF⟩ := (OV.out k h1 hk (by rw [HN.out, twl_stop _ s k hlt (by simp [q])]; rfl)).1 hlt q
        have HTX : Hid (s.extract (p + 1) k = ⟨T.toArray⟩) := hT
        have HF : Hid (C = ⟨3, T, 0, k - p + 1, 0⟩) := (by show _ = _; rw [← HC.out, hF])
        clear hT hF OV HC HN q
        go_wp2_with fail
        have t0 : W3.cell? ⟨b7, 0, none⟩ = some (.int .i64 0) := M7.cell 0
        have r0 := M7.frozen 0
        have t1 : W3.cell? ⟨b7, 1, none⟩ = some (.string ⟨#[]⟩) := M7.cell 1
        have r1 := M7.frozen 1
        have t6 : W3.cell? ⟨b7, 6, none⟩ = some (.int .i64 0) := M7.cell 6
        have r6 := M7.frozen 6
        go_region
        have MX := (((M7.set1 0 (.int .i64 3)).set1 1 (.string (s.extract (p + 1) k))).set1 6 (.int .i64 ((k : Int) + 1)))
        have UX := (((Upd.setCell W3 b7 0 (.int .i64 3)).comp (Upd.setCell _ b7 1 (.string (s.extract (p + 1) k)))).comp (Upd.setCell _ b7 6 (.int .i64 ((k : Int) + 1))))
        clear t0 r0 t1 r1 t6 r6
        generalize (((W3.setCell ⟨b7, 0, none⟩ (.int .i64 3)).setCell ⟨b7, 1, none⟩ (.string (s.extract (p + 1) k))).setCell ⟨b7, 6, none⟩ (.int .i64 ((k : Int) + 1))) = X at MX UX ⊢
        rw [HTX.out] at MX
        have Z7 : IsS X.drew b7 44 (tokL ⟨3, T, 0, 0, 0, p, k + 1⟩) := MX
        have Z4 : IsS X.drew b4 44 (tokL noTok) := (show IsS X b4 44 (tokL noTok) from M4.upd UX h47)
        have ZBx := UX.trans B3 hb7
        have ZB : Below w.heap.size w X.drew := ⟨ZBx.os, ZBx.tape, ZBx.output, ZBx.size, ZBx.block⟩
        clear ZBx MX UX M4 B3 M7
        generalize X.drew = Y at *
        go_wp2_with (first
          | (refine wpList_loadP rfl 44 _ rfl rfl Z7 7 (tokL ⟨3, T, 0, 0, 0, p, k + 1⟩) rfl _ Tryd.underlying44 rfl info38 ?_)
          | (refine wpList_storeS rfl 44 _ _ rfl rfl (tokL ⟨3, T, 0, 0, 0, p, k + 1⟩) rfl Z4 (by simp [tokL, noTok]) info38 (tok_one _) ?_; intro V9 U9 NZx; have NZ : IsS V9 b4 44 (tokL ⟨3, T, 0, 0, 0, p, k + 1⟩) := NZx; have BZ := U9.trans ZB hb4; clear U9 Z4 ZB NZx))
        refine ret_STT rfl rfl rfl NZ _ Tryd.underlying44 rfl info38 _ rfl _ rfl ⟨?_, BZ⟩
        rw [HF.out, rtok_ok, show p + (k - p + 1) = k + 1 from by omega]; rfl
      · have x : ((s[k].toNat : Int) == 34) = false := (by simp; omega)
        have x' : ((s[k].toNat : Int) != 34) = true := (by simp; omega)
        by_cases r : s[k].toNat = 10
        · have y : ((s[k].toNat : Int) == 10) = true := (by simp; omega)
          have y' : ((s[k].toNat : Int) != 10) = false := (by simp; omega)
          have hF := (OV.out k h1 hk (by rw [HN.out, twl_stop _ s k hlt (by simp [r])]; rfl)).2 (fun _ => q)
          have HF : Hid (C = ⟨0, [], 0, k - p, 50⟩) := (by show _ = _; rw [← HC.out, hF])
          clear hF OV HC HN q r
          go_wp2_with (first
    | (refine wpList_storeS rfl 44 _ _ rfl rfl (tokL noTok) rfl M4 (by simp [tokL, noTok]) info38 (tok_one _) ?_; intro V9 U9 NZx; have NZ : IsS V9 b4 44 (tokL noTok) := NZx; have BZ := U9.trans B3 hb4; clear U9 M4 B3 NZx))
          refine ret_STT rfl rfl rfl NZ _ Tryd.underlying44 rfl info38 _ rfl _ rfl ⟨?_, BZ⟩
          rw [HF.out, rtok_bad p 0 [] 0 (k - p) 50 (by decide), show p + (k - p) = k from by omega]
          rfl
        · have y : ((s[k].toNat : Int) == 10) = false := (by simp; omega)
          have y' : ((s[k].toNat : Int) != 10) = true := (by simp; omega)
          have HG : Hid (p + quotLen (s.data.toList.drop p) = k + 1 + twl (fun c => decide (c.toNat ≠ 34 ∧ c.toNat ≠ 10)) (s.data.toList.drop (k + 1))) := (by show _ = _; rw [HN.out, twl_go _ s k hlt (by simp [q, r])]; omega)
          clear HN q r
          go_wp2_with fail
          go_round
          case rel => exact ⟨k + 1, by omega, by omega, by go_num, HG⟩
          case measure => simp [intOf]; omega
    · have hke : k = s.size := by omega
      have hi : ¬ (k : Int) < s.size := by omega
      have hne : ((k : Int) == s.size) = true := (by simp; omega)
      have hF := (OV.out k h1 hk (by rw [HN.out, drop_end s k (by omega)]; rfl)).2 (fun h => absurd h hlt)
      have HF : Hid (C = ⟨0, [], 0, k - p, 50⟩) := (by show _ = _; rw [← HC.out, hF])
      clear hF OV HC HN hke
      go_wp2_with (first
    | (refine wpList_storeS rfl 44 _ _ rfl rfl (tokL noTok) rfl M4 (by simp [tokL, noTok]) info38 (tok_one _) ?_; intro V9 U9 NZx; have NZ : IsS V9 b4 44 (tokL noTok) := NZx; have BZ := U9.trans B3 hb4; clear U9 M4 B3 NZx))
      refine ret_STT rfl rfl rfl NZ _ Tryd.underlying44 rfl info38 _ rfl _ rfl ⟨?_, BZ⟩
      rw [HF.out, rtok_bad p 0 [] 0 (k - p) 50 (by decide), show p + (k - p) = k from by omega]
      rfl

set_option maxRecDepth 100000 in
set_option maxHeartbeats 4000000 in
theorem rtoken_sign0 (s : ByteArray) (hs : s.size < 2305843009213693952) (p : Nat) (hp : p < s.size) (hl : letN s[p].toNat = false) (hb : numB (s.data.toList.drop p) = false) (hd : digN s[p].toNat = false) (h34 : s[p].toNat ≠ 34) (h45 : s[p].toNat ≠ 45) (w : World) :
    Calls Tryd.prog 23 #[.string s, .int .i64 (p : Int)] w fun e w' => e = .returned (rtokV p (cutF (s.data.toList.drop p))) ∧ Below w.heap.size w w' := by
  have cL := fun w => rletter_any s[p].toNat s[p].toNat_lt w
  rw [hl] at cL
  have cD := fun w => rdigit_any s[p].toNat s[p].toNat_lt w
  rw [hd] at cD
  have f34 : ((s[p].toNat : Int) == 34) = false := (by simp; omega)
  have f45 : ((s[p].toNat : Int) == 45) = false := (by simp; omega)
  clear h45
  obtain ⟨r, hC, hrs, cS⟩ := sign_over s hs p hp hl hb h34
  clear hl hb hd h34
  obtain ⟨C, hCC⟩ : ∃ C, cutF (s.data.toList.drop p) = C := ⟨_, rfl⟩
  rw [hCC] at hC ⊢
  clear hCC
  have hpi : (p : Int) < s.size := by omega
  by_cases hem : r.toList.isEmpty = true
  · have HF : Hid (C = ⟨0, [], 0, 0, 50⟩) := (by show _ = _; rw [hC, if_pos hem])
    clear hC
    have tk : True := trivial
    go_enter Tryd.func23, Tryd.ntmps23
    go_wp2_with (first
      | (refine wpList_allocS rfl 44 rfl (tokL noTok) Tryd.zeroValue44 ?_; clear tk; intro W1 b4 F1 N4; have hb4 : w.heap.size ≤ b4 := Nat.le_of_eq F1.at'.symm; have B1 := F1.trans (Below.refl _ w) (Nat.le_refl _); clear F1)
      | (refine wpList_allocS rfl 44 rfl (tokL noTok) Tryd.zeroValue44 ?_; intro W2 b7 F2 N7; have hb7 : w.heap.size ≤ b7 := Nat.le_trans B1.size (Nat.le_of_eq F2.at'.symm); have h47 : b4 ≠ b7 := (by have := N4.lt; have := F2.at'; omega); have N4b := N4.fresh F2; have B2 := F2.trans B1 B1.size; clear F2 N4 B1)
      | (refine wpList_storeS rfl 44 _ _ rfl rfl (tokL ⟨0, [], 0, 0, 0, p, 0⟩) rfl N7 (by simp [tokL, noTok]) info38 (tok_one _) ?_; intro W3 U3 M7x; have M7 : IsS W3 b7 44 (tokL ⟨0, [], 0, 0, 0, p, 0⟩) := M7x; have M4 := N4b.upd U3 h47; have B3 := U3.trans B2 hb7; clear U3 N7 N4b B2 M7x)
      | (go_at_call 30; refine (cL _).mono ?_; rintro e w' ⟨rfl, hw'⟩; replace hw' := hw'.symm; subst hw')
      | (go_at_call 32; refine (cD _).mono ?_; rintro e w' ⟨rfl, hw'⟩; replace hw' := hw'.symm; subst hw')
      | (go_at_call 34; refine (cS _).mono ?_; rintro e W5 ⟨rfl, B5x⟩; have M7c := M7.grown B5x; have M4c := M4.grown B5x; have B5 := Below.then B3 B5x; clear B5x M7 M4 B3)
      | (refine wpList_storeS rfl 44 _ _ rfl rfl (tokL noTok) rfl M4c (by simp [tokL, noTok]) info38 (tok_one _) ?_; intro V9 U9 NZx; have NZ : IsS V9 b4 44 (tokL noTok) := NZx; have BZ := U9.trans B5 hb4; clear U9 M4c B5 NZx))
    refine ret_STT rfl rfl rfl NZ _ Tryd.underlying44 rfl info38 _ rfl _ rfl ⟨?_, BZ⟩
    rw [HF.out, rtok_bad p 0 [] 0 0 50 (by omega)]; rfl
  · have hem' : r.toList.isEmpty = false := by simpa using hem
    have HF : Hid (C = ⟨4, r.data.toList, 0, r.size, 0⟩) := (by show _ = _; rw [hC, if_neg hem])
    have hrs2 : (p : Int) + r.size ≤ s.size := by omega
    clear hC hem
    have tk : True := trivial
    go_enter Tryd.func23, Tryd.ntmps23
    go_wp2_with (first
      | (refine wpList_allocS rfl 44 rfl (tokL noTok) Tryd.zeroValue44 ?_; clear tk; intro W1 b4 F1 N4; have hb4 : w.heap.size ≤ b4 := Nat.le_of_eq F1.at'.symm; have B1 := F1.trans (Below.refl _ w) (Nat.le_refl _); clear F1)
      | (refine wpList_allocS rfl 44 rfl (tokL noTok) Tryd.zeroValue44 ?_; intro W2 b7 F2 N7; have hb7 : w.heap.size ≤ b7 := Nat.le_trans B1.size (Nat.le_of_eq F2.at'.symm); have h47 : b4 ≠ b7 := (by have := N4.lt; have := F2.at'; omega); have N4b := N4.fresh F2; have B2 := F2.trans B1 B1.size; clear F2 N4 B1)
      | (refine wpList_storeS rfl 44 _ _ rfl rfl (tokL ⟨0, [], 0, 0, 0, p, 0⟩) rfl N7 (by simp [tokL, noTok]) info38 (tok_one _) ?_; intro W3 U3 M7x; have M7 : IsS W3 b7 44 (tokL ⟨0, [], 0, 0, 0, p, 0⟩) := M7x; have M4 := N4b.upd U3 h47; have B3 := U3.trans B2 hb7; clear U3 N7 N4b B2 M7x)
      | (go_at_call 30; refine (cL _).mono ?_; rintro e w' ⟨rfl, hw'⟩; replace hw' := hw'.symm; subst hw')
      | (go_at_call 32; refine (cD _).mono ?_; rintro e w' ⟨rfl, hw'⟩; replace hw' := hw'.symm; subst hw')
      | (go_at_call 34; refine (cS _).mono ?_; rintro e W5 ⟨rfl, B5x⟩; have M7c := M7.grown B5x; have M4c := M4.grown B5x; have B5 := Below.then B3 B5x; clear B5x M7 M4 B3)
      | (refine wpList_store1 rfl 3 _ _ rfl rfl (.int .i64 4) rfl M7c (by simp [tokL]) info3 rfl ?_; intro X1 U1 P1x; have P1 : IsS X1 b7 44 [.int .i64 4, .string ⟨#[]⟩, .int .i64 0, .int .i64 0, .int .i64 0, .int .i64 (p : Int), .int .i64 0] := P1x; have Q1 := M4c.upd U1 h47; have A1 := U1.trans B5 hb7; clear U1 P1x M7c M4c B5)
      | (refine wpList_store1 rfl 9 _ _ rfl rfl (.string r) rfl P1 (by simp) info9 rfl ?_; intro X2 U2 P2x; have P2 : IsS X2 b7 44 [.int .i64 4, .string r, .int .i64 0, .int .i64 0, .int .i64 0, .int .i64 (p : Int), .int .i64 0] := P2x; have Q2 := Q1.upd U2 h47; have A2 := U2.trans A1 hb7; clear U2 P2x P1 Q1 A1)
      | (refine wpList_store1 rfl 3 _ _ rfl rfl (.int .i64 ((p : Int) + r.size)) rfl P2 (by simp) info3 rfl ?_; intro Y U3 P3x; have Z7 : IsS Y b7 44 (tokL ⟨4, r.data.toList, 0, 0, 0, p, p + r.size⟩) := (by have := P3x; simpa [tokL, putL] using this); have Z4 := Q2.upd U3 h47; have ZB := U3.trans A2 hb7; clear U3 P3x P2 Q2 A2)
      | (refine wpList_loadP rfl 44 _ rfl rfl Z7 7 (tokL ⟨4, r.data.toList, 0, 0, 0, p, p + r.size⟩) rfl _ Tryd.underlying44 rfl info38 ?_)
      | (refine wpList_storeS rfl 44 _ _ rfl rfl (tokL ⟨4, r.data.toList, 0, 0, 0, p, p + r.size⟩) rfl Z4 (by simp [tokL, noTok]) info38 (tok_one _) ?_; intro V9 U9 NZx; have NZ : IsS V9 b4 44 (tokL ⟨4, r.data.toList, 0, 0, 0, p, p + r.size⟩) := NZx; have BZ := U9.trans ZB hb4; clear U9 Z4 ZB NZx))
    refine ret_STT rfl rfl rfl NZ _ Tryd.underlying44 rfl info38 _ rfl _ rfl ⟨?_, BZ⟩
    rw [HF.out, rtok_ok]; rfl

set_option maxRecDepth 100000 in
set_option maxHeartbeats 4000000 in
theorem rtoken_sign1 (s : ByteArray) (hs : s.size < 2305843009213693952) (p : Nat) (hp : p < s.size) (hl : letN s[p].toNat = false) (hb : numB (s.data.toList.drop p) = false) (hd : digN s[p].toNat = false) (h34 : s[p].toNat ≠ 34) (h45 : s[p].toNat = 45) (h1 : ¬ p + 1 < s.size) (w : World) :
    Calls Tryd.prog 23 #[.string s, .int .i64 (p : Int)] w fun e w' => e = .returned (rtokV p (cutF (s.data.toList.drop p))) ∧ Below w.heap.size w w' := by
  have cL := fun w => rletter_any s[p].toNat s[p].toNat_lt w
  rw [hl] at cL
  have cD := fun w => rdigit_any s[p].toNat s[p].toNat_lt w
  rw [hd] at cD
  have f34 : ((s[p].toNat : Int) == 34) = false := (by simp; omega)
  have f45 : ((s[p].toNat : Int) == 45) = true := (by simp; omega)
  have hpi1 : ¬ (p : Int) + 1 < s.size := by omega
  clear h45
  obtain ⟨r, hC, hrs, cS⟩ := sign_over s hs p hp hl hb h34
  clear hl hb hd h34
  obtain ⟨C, hCC⟩ : ∃ C, cutF (s.data.toList.drop p) = C := ⟨_, rfl⟩
  rw [hCC] at hC ⊢
  clear hCC
  have hpi : (p : Int) < s.size := by omega
  by_cases hem : r.toList.isEmpty = true
  · have HF : Hid (C = ⟨0, [], 0, 0, 50⟩) := (by show _ = _; rw [hC, if_pos hem])
    clear hC
    have tk : True := trivial
    go_enter Tryd.func23, Tryd.ntmps23
    go_wp2_with (first
      | (refine wpList_allocS rfl 44 rfl (tokL noTok) Tryd.zeroValue44 ?_; clear tk; intro W1 b4 F1 N4; have hb4 : w.heap.size ≤ b4 := Nat.le_of_eq F1.at'.symm; have B1 := F1.trans (Below.refl _ w) (Nat.le_refl _); clear F1)
      | (refine wpList_allocS rfl 44 rfl (tokL noTok) Tryd.zeroValue44 ?_; intro W2 b7 F2 N7; have hb7 : w.heap.size ≤ b7 := Nat.le_trans B1.size (Nat.le_of_eq F2.at'.symm); have h47 : b4 ≠ b7 := (by have := N4.lt; have := F2.at'; omega); have N4b := N4.fresh F2; have B2 := F2.trans B1 B1.size; clear F2 N4 B1)
      | (refine wpList_storeS rfl 44 _ _ rfl rfl (tokL ⟨0, [], 0, 0, 0, p, 0⟩) rfl N7 (by simp [tokL, noTok]) info38 (tok_one _) ?_; intro W3 U3 M7x; have M7 : IsS W3 b7 44 (tokL ⟨0, [], 0, 0, 0, p, 0⟩) := M7x; have M4 := N4b.upd U3 h47; have B3 := U3.trans B2 hb7; clear U3 N7 N4b B2 M7x)
      | (go_at_call 30; refine (cL _).mono ?_; rintro e w' ⟨rfl, hw'⟩; replace hw' := hw'.symm; subst hw')
      | (go_at_call 32; refine (cD _).mono ?_; rintro e w' ⟨rfl, hw'⟩; replace hw' := hw'.symm; subst hw')
      | (go_at_call 34; refine (cS _).mono ?_; rintro e W5 ⟨rfl, B5x⟩; have M7c := M7.grown B5x; have M4c := M4.grown B5x; have B5 := Below.then B3 B5x; clear B5x M7 M4 B3)
      | (refine wpList_storeS rfl 44 _ _ rfl rfl (tokL noTok) rfl M4c (by simp [tokL, noTok]) info38 (tok_one _) ?_; intro V9 U9 NZx; have NZ : IsS V9 b4 44 (tokL noTok) := NZx; have BZ := U9.trans B5 hb4; clear U9 M4c B5 NZx))
    refine ret_STT rfl rfl rfl NZ _ Tryd.underlying44 rfl info38 _ rfl _ rfl ⟨?_, BZ⟩
    rw [HF.out, rtok_bad p 0 [] 0 0 50 (by omega)]; rfl
  · have hem' : r.toList.isEmpty = false := by simpa using hem
    have HF : Hid (C = ⟨4, r.data.toList, 0, r.size, 0⟩) := (by show _ = _; rw [hC, if_neg hem])
    have hrs2 : (p : Int) + r.size ≤ s.size := by omega
    clear hC hem
    have tk : True := trivial
    go_enter Tryd.func23, Tryd.ntmps23
    go_wp2_with (first
      | (refine wpList_allocS rfl 44 rfl (tokL noTok) Tryd.zeroValue44 ?_; clear tk; intro W1 b4 F1 N4; have hb4 : w.heap.size ≤ b4 := Nat.le_of_eq F1.at'.symm; have B1 := F1.trans (Below.refl _ w) (Nat.le_refl _); clear F1)
      | (refine wpList_allocS rfl 44 rfl (tokL noTok) Tryd.zeroValue44 ?_; intro W2 b7 F2 N7; have hb7 : w.heap.size ≤ b7 := Nat.le_trans B1.size (Nat.le_of_eq F2.at'.symm); have h47 : b4 ≠ b7 := (by have := N4.lt; have := F2.at'; omega); have N4b := N4.fresh F2; have B2 := F2.trans B1 B1.size; clear F2 N4 B1)
      | (refine wpList_storeS rfl 44 _ _ rfl rfl (tokL ⟨0, [], 0, 0, 0, p, 0⟩) rfl N7 (by simp [tokL, noTok]) info38 (tok_one _) ?_; intro W3 U3 M7x; have M7 : IsS W3 b7 44 (tokL ⟨0, [], 0, 0, 0, p, 0⟩) := M7x; have M4 := N4b.upd U3 h47; have B3 := U3.trans B2 hb7; clear U3 N7 N4b B2 M7x)
      | (go_at_call 30; refine (cL _).mono ?_; rintro e w' ⟨rfl, hw'⟩; replace hw' := hw'.symm; subst hw')
      | (go_at_call 32; refine (cD _).mono ?_; rintro e w' ⟨rfl, hw'⟩; replace hw' := hw'.symm; subst hw')
      | (go_at_call 34; refine (cS _).mono ?_; rintro e W5 ⟨rfl, B5x⟩; have M7c := M7.grown B5x; have M4c := M4.grown B5x; have B5 := Below.then B3 B5x; clear B5x M7 M4 B3)
      | (refine wpList_store1 rfl 3 _ _ rfl rfl (.int .i64 4) rfl M7c (by simp [tokL]) info3 rfl ?_; intro X1 U1 P1x; have P1 : IsS X1 b7 44 [.int .i64 4, .string ⟨#[]⟩, .int .i64 0, .int .i64 0, .int .i64 0, .int .i64 (p : Int), .int .i64 0] := P1x; have Q1 := M4c.upd U1 h47; have A1 := U1.trans B5 hb7; clear U1 P1x M7c M4c B5)
      | (refine wpList_store1 rfl 9 _ _ rfl rfl (.string r) rfl P1 (by simp) info9 rfl ?_; intro X2 U2 P2x; have P2 : IsS X2 b7 44 [.int .i64 4, .string r, .int .i64 0, .int .i64 0, .int .i64 0, .int .i64 (p : Int), .int .i64 0] := P2x; have Q2 := Q1.upd U2 h47; have A2 := U2.trans A1 hb7; clear U2 P2x P1 Q1 A1)
      | (refine wpList_store1 rfl 3 _ _ rfl rfl (.int .i64 ((p : Int) + r.size)) rfl P2 (by simp) info3 rfl ?_; intro Y U3 P3x; have Z7 : IsS Y b7 44 (tokL ⟨4, r.data.toList, 0, 0, 0, p, p + r.size⟩) := (by have := P3x; simpa [tokL, putL] using this); have Z4 := Q2.upd U3 h47; have ZB := U3.trans A2 hb7; clear U3 P3x P2 Q2 A2)
      | (refine wpList_loadP rfl 44 _ rfl rfl Z7 7 (tokL ⟨4, r.data.toList, 0, 0, 0, p, p + r.size⟩) rfl _ Tryd.underlying44 rfl info38 ?_)
      | (refine wpList_storeS rfl 44 _ _ rfl rfl (tokL ⟨4, r.data.toList, 0, 0, 0, p, p + r.size⟩) rfl Z4 (by simp [tokL, noTok]) info38 (tok_one _) ?_; intro V9 U9 NZx; have NZ : IsS V9 b4 44 (tokL ⟨4, r.data.toList, 0, 0, 0, p, p + r.size⟩) := NZx; have BZ := U9.trans ZB hb4; clear U9 Z4 ZB NZx))
    refine ret_STT rfl rfl rfl NZ _ Tryd.underlying44 rfl info38 _ rfl _ rfl ⟨?_, BZ⟩
    rw [HF.out, rtok_ok]; rfl

set_option maxRecDepth 100000 in
set_option maxHeartbeats 4000000 in
theorem rtoken_sign2 (s : ByteArray) (hs : s.size < 2305843009213693952) (p : Nat) (hp : p < s.size) (hl : letN s[p].toNat = false) (hb : numB (s.data.toList.drop p) = false) (hd : digN s[p].toNat = false) (h34 : s[p].toNat ≠ 34) (h45 : s[p].toNat = 45) (h1 : p + 1 < s.size) (hd1 : digN s[p + 1].toNat = false) (w : World) :
    Calls Tryd.prog 23 #[.string s, .int .i64 (p : Int)] w fun e w' => e = .returned (rtokV p (cutF (s.data.toList.drop p))) ∧ Below w.heap.size w w' := by
  have cL := fun w => rletter_any s[p].toNat s[p].toNat_lt w
  rw [hl] at cL
  have cD := fun w => rdigit_any s[p].toNat s[p].toNat_lt w
  rw [hd] at cD
  have f34 : ((s[p].toNat : Int) == 34) = false := (by simp; omega)
  have f45 : ((s[p].toNat : Int) == 45) = true := (by simp; omega)
  have hpi1 : (p : Int) + 1 < s.size := by omega
  have cE := fun w => rdigit_any s[p + 1].toNat s[p + 1].toNat_lt w
  rw [hd1] at cE
  clear h45 hd1
  obtain ⟨r, hC, hrs, cS⟩ := sign_over s hs p hp hl hb h34
  clear hl hb hd h34
  obtain ⟨C, hCC⟩ : ∃ C, cutF (s.data.toList.drop p) = C := ⟨_, rfl⟩
  rw [hCC] at hC ⊢
  clear hCC
  have hpi : (p : Int) < s.size := by omega
  by_cases hem : r.toList.isEmpty = true
  · have HF : Hid (C = ⟨0, [], 0, 0, 50⟩) := (by show _ = _; rw [hC, if_pos hem])
    clear hC
    have tk : True := trivial
    go_enter Tryd.func23, Tryd.ntmps23
    go_wp2_with (first
      | (refine wpList_allocS rfl 44 rfl (tokL noTok) Tryd.zeroValue44 ?_; clear tk; intro W1 b4 F1 N4; have hb4 : w.heap.size ≤ b4 := Nat.le_of_eq F1.at'.symm; have B1 := F1.trans (Below.refl _ w) (Nat.le_refl _); clear F1)
      | (refine wpList_allocS rfl 44 rfl (tokL noTok) Tryd.zeroValue44 ?_; intro W2 b7 F2 N7; have hb7 : w.heap.size ≤ b7 := Nat.le_trans B1.size (Nat.le_of_eq F2.at'.symm); have h47 : b4 ≠ b7 := (by have := N4.lt; have := F2.at'; omega); have N4b := N4.fresh F2; have B2 := F2.trans B1 B1.size; clear F2 N4 B1)
      | (refine wpList_storeS rfl 44 _ _ rfl rfl (tokL ⟨0, [], 0, 0, 0, p, 0⟩) rfl N7 (by simp [tokL, noTok]) info38 (tok_one _) ?_; intro W3 U3 M7x; have M7 : IsS W3 b7 44 (tokL ⟨0, [], 0, 0, 0, p, 0⟩) := M7x; have M4 := N4b.upd U3 h47; have B3 := U3.trans B2 hb7; clear U3 N7 N4b B2 M7x)
      | (go_at_call 30; refine (cL _).mono ?_; rintro e w' ⟨rfl, hw'⟩; replace hw' := hw'.symm; subst hw')
      | (go_at_call 32; refine (cD _).mono ?_; rintro e w' ⟨rfl, hw'⟩; replace hw' := hw'.symm; subst hw')
      | (go_at_call 32; refine (cE _).mono ?_; rintro e w' ⟨rfl, hw'⟩; replace hw' := hw'.symm; subst hw')
      | (go_at_call 34; refine (cS _).mono ?_; rintro e W5 ⟨rfl, B5x⟩; have M7c := M7.grown B5x; have M4c := M4.grown B5x; have B5 := Below.then B3 B5x; clear B5x M7 M4 B3)
      | (refine wpList_storeS rfl 44 _ _ rfl rfl (tokL noTok) rfl M4c (by simp [tokL, noTok]) info38 (tok_one _) ?_; intro V9 U9 NZx; have NZ : IsS V9 b4 44 (tokL noTok) := NZx; have BZ := U9.trans B5 hb4; clear U9 M4c B5 NZx))
    refine ret_STT rfl rfl rfl NZ _ Tryd.underlying44 rfl info38 _ rfl _ rfl ⟨?_, BZ⟩
    rw [HF.out, rtok_bad p 0 [] 0 0 50 (by omega)]; rfl
  · have hem' : r.toList.isEmpty = false := by simpa using hem
    have HF : Hid (C = ⟨4, r.data.toList, 0, r.size, 0⟩) := (by show _ = _; rw [hC, if_neg hem])
    have hrs2 : (p : Int) + r.size ≤ s.size := by omega
    clear hC hem
    have tk : True := trivial
    go_enter Tryd.func23, Tryd.ntmps23
    go_wp2_with (first
      | (refine wpList_allocS rfl 44 rfl (tokL noTok) Tryd.zeroValue44 ?_; clear tk; intro W1 b4 F1 N4; have hb4 : w.heap.size ≤ b4 := Nat.le_of_eq F1.at'.symm; have B1 := F1.trans (Below.refl _ w) (Nat.le_refl _); clear F1)
      | (refine wpList_allocS rfl 44 rfl (tokL noTok) Tryd.zeroValue44 ?_; intro W2 b7 F2 N7; have hb7 : w.heap.size ≤ b7 := Nat.le_trans B1.size (Nat.le_of_eq F2.at'.symm); have h47 : b4 ≠ b7 := (by have := N4.lt; have := F2.at'; omega); have N4b := N4.fresh F2; have B2 := F2.trans B1 B1.size; clear F2 N4 B1)
      | (refine wpList_storeS rfl 44 _ _ rfl rfl (tokL ⟨0, [], 0, 0, 0, p, 0⟩) rfl N7 (by simp [tokL, noTok]) info38 (tok_one _) ?_; intro W3 U3 M7x; have M7 : IsS W3 b7 44 (tokL ⟨0, [], 0, 0, 0, p, 0⟩) := M7x; have M4 := N4b.upd U3 h47; have B3 := U3.trans B2 hb7; clear U3 N7 N4b B2 M7x)
      | (go_at_call 30; refine (cL _).mono ?_; rintro e w' ⟨rfl, hw'⟩; replace hw' := hw'.symm; subst hw')
      | (go_at_call 32; refine (cD _).mono ?_; rintro e w' ⟨rfl, hw'⟩; replace hw' := hw'.symm; subst hw')
      | (go_at_call 32; refine (cE _).mono ?_; rintro e w' ⟨rfl, hw'⟩; replace hw' := hw'.symm; subst hw')
      | (go_at_call 34; refine (cS _).mono ?_; rintro e W5 ⟨rfl, B5x⟩; have M7c := M7.grown B5x; have M4c := M4.grown B5x; have B5 := Below.then B3 B5x; clear B5x M7 M4 B3)
      | (refine wpList_store1 rfl 3 _ _ rfl rfl (.int .i64 4) rfl M7c (by simp [tokL]) info3 rfl ?_; intro X1 U1 P1x; have P1 : IsS X1 b7 44 [.int .i64 4, .string ⟨#[]⟩, .int .i64 0, .int .i64 0, .int .i64 0, .int .i64 (p : Int), .int .i64 0] := P1x; have Q1 := M4c.upd U1 h47; have A1 := U1.trans B5 hb7; clear U1 P1x M7c M4c B5)
      | (refine wpList_store1 rfl 9 _ _ rfl rfl (.string r) rfl P1 (by simp) info9 rfl ?_; intro X2 U2 P2x; have P2 : IsS X2 b7 44 [.int .i64 4, .string r, .int .i64 0, .int .i64 0, .int .i64 0, .int .i64 (p : Int), .int .i64 0] := P2x; have Q2 := Q1.upd U2 h47; have A2 := U2.trans A1 hb7; clear U2 P2x P1 Q1 A1)
      | (refine wpList_store1 rfl 3 _ _ rfl rfl (.int .i64 ((p : Int) + r.size)) rfl P2 (by simp) info3 rfl ?_; intro Y U3 P3x; have Z7 : IsS Y b7 44 (tokL ⟨4, r.data.toList, 0, 0, 0, p, p + r.size⟩) := (by have := P3x; simpa [tokL, putL] using this); have Z4 := Q2.upd U3 h47; have ZB := U3.trans A2 hb7; clear U3 P3x P2 Q2 A2)
      | (refine wpList_loadP rfl 44 _ rfl rfl Z7 7 (tokL ⟨4, r.data.toList, 0, 0, 0, p, p + r.size⟩) rfl _ Tryd.underlying44 rfl info38 ?_)
      | (refine wpList_storeS rfl 44 _ _ rfl rfl (tokL ⟨4, r.data.toList, 0, 0, 0, p, p + r.size⟩) rfl Z4 (by simp [tokL, noTok]) info38 (tok_one _) ?_; intro V9 U9 NZx; have NZ : IsS V9 b4 44 (tokL ⟨4, r.data.toList, 0, 0, 0, p, p + r.size⟩) := NZx; have BZ := U9.trans ZB hb4; clear U9 Z4 ZB NZx))
    refine ret_STT rfl rfl rfl NZ _ Tryd.underlying44 rfl info38 _ rfl _ rfl ⟨?_, BZ⟩
    rw [HF.out, rtok_ok]; rfl

theorem rtoken_any (s : ByteArray) (hs : s.size < 2305843009213693952) (p : Nat) (hp : p < s.size) (w : World) :
    Calls Tryd.prog 23 #[.string s, .int .i64 (p : Int)] w fun e w' => e = .returned (rtokV p (cutF (s.data.toList.drop p))) ∧ Below w.heap.size w w' := by
  cases hl : letN s[p].toNat with
  | true => exact rtoken_name s hs p hp hl w
  | false =>
    have hnb : numB (s.data.toList.drop p) = (digN s[p].toNat || (decide (s[p].toNat = 45) && (if h : p + 1 < s.size then digN s[p + 1].toNat else false))) := (by
      rw [drop_cons s p hp]
      unfold numB
      by_cases h : p + 1 < s.size
      · rw [drop_cons s (p + 1) h, dif_pos h]
      · rw [drop_end s (p + 1) (by omega), dif_neg h])
    cases hd : digN s[p].toNat with
    | true => exact rtoken_num0 s hs p hp hl (by rw [hnb, hd]; rfl) hd w
    | false =>
      by_cases h45 : s[p].toNat = 45
      · by_cases h1 : p + 1 < s.size
        · cases hd1 : digN s[p + 1].toNat with
          | true => exact rtoken_num1 s hs p hp hl (by rw [hnb, dif_pos h1, hd1, h45]; simp) hd h45 h1 hd1 w
          | false => exact rtoken_sign2 s hs p hp hl (by rw [hnb, dif_pos h1, hd1, hd]; simp) hd (by omega) h45 h1 hd1 w
        · exact rtoken_sign1 s hs p hp hl (by rw [hnb, dif_neg h1, hd]; simp) hd (by omega) h45 h1 w
      · by_cases h34 : s[p].toNat = 34
        · exact rtoken_quot s hs p hp hl (by rw [hnb, hd]; simp [h45]) hd h34 w
        · exact rtoken_sign0 s hs p hp hl (by rw [hnb, hd]; simp [h45]) hd h34 h45 w
end Go.Proofs.YtopnbemodlcknaaDoor.Lx

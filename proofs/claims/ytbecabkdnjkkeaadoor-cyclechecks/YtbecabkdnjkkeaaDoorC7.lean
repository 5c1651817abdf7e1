/- Of the reference: begins, ends, Out, Away, Turn, below, Check. -/
import Derived.Test.YtbecabkdnjkkeaaDoorC6
import Derived.Test.YtbecabkdnjkkeaaDoorKN
namespace Go.Proofs.YtbecabkdnjkkeaaDoor
open Go Go.RowKit M
set_option linter.unusedSimpArgs false
set_option linter.unusedVariables false

set_option maxRecDepth 100000 in
set_option maxHeartbeats 4000000 in
theorem begins_any {e : Nat} (he : e < 18) (w : World) : Calls Tryd.prog 16 #[.int .i64 (e : Int)] w fun r w' => r = .returned (.int .u8 (byF (frF e))) ∧ w' = w := by
  rcases lt18 he with rfl | rfl | rfl | rfl | rfl | rfl | rfl | rfl | rfl | rfl | rfl | rfl | rfl | rfl | rfl | rfl | rfl | rfl <;>
  · go_enter Tryd.func16, Tryd.ntmps16
    go_wp2
    go_ret
    exact ⟨rfl, rfl⟩
set_option maxRecDepth 100000 in
set_option maxHeartbeats 4000000 in
theorem ends_any {e : Nat} (he : e < 18) (w : World) : Calls Tryd.prog 15 #[.int .i64 (e : Int)] w fun r w' => r = .returned (.int .u8 (byF (toF e))) ∧ w' = w := by
  rcases lt18 he with rfl | rfl | rfl | rfl | rfl | rfl | rfl | rfl | rfl | rfl | rfl | rfl | rfl | rfl | rfl | rfl | rfl | rfl <;>
  · go_enter Tryd.func15, Tryd.ntmps15
    go_wp2
    go_ret
    exact ⟨rfl, rfl⟩
set_option maxRecDepth 100000 in
set_option maxHeartbeats 4000000 in
theorem rout_any {e : Nat} (he : e < 18) (w : World) : Calls Tryd.prog 17 #[.int .i64 (e : Int)] w fun r w' => r = .returned (.bool (outF e)) ∧ w' = w := by
  rcases lt18 he with rfl | rfl | rfl | rfl | rfl | rfl | rfl | rfl | rfl | rfl | rfl | rfl | rfl | rfl | rfl | rfl | rfl | rfl <;>
  · go_enter Tryd.func17, Tryd.ntmps17
    go_wp2
    go_ret
    exact ⟨rfl, rfl⟩
set_option maxRecDepth 100000 in
set_option maxHeartbeats 4000000 in
theorem raway_any {e : Nat} (he : e < 18) (w : World) : Calls Tryd.prog 18 #[.int .i64 (e : Int)] w fun r w' => r = .returned (.bool (awF e)) ∧ w' = w := by
  rcases lt18 he with rfl | rfl | rfl | rfl | rfl | rfl | rfl | rfl | rfl | rfl | rfl | rfl | rfl | rfl | rfl | rfl | rfl | rfl <;>
  · go_enter Tryd.func18, Tryd.ntmps18
    go_wp2
    go_ret
    exact ⟨rfl, rfl⟩
theorem str_dropN (l : List ByteArray) (k : Nat) : (l.flatMap strE).drop k = (l.drop k).flatMap strE := by rw [show l.flatMap strE = l.map Value.string from flat1 _ l, show (l.drop k).flatMap strE = (l.drop k).map Value.string from flat1 _ _, List.map_drop]
theorem str_takeN (l : List ByteArray) (k : Nat) : (l.flatMap strE).take k = (l.take k).flatMap strE := by rw [show l.flatMap strE = l.map Value.string from flat1 _ l, show (l.take k).flatMap strE = (l.take k).map Value.string from flat1 _ _, List.map_take]
set_option maxRecDepth 100000 in
set_option maxHeartbeats 8000000 in
theorem turn_any (L : List ByteArray) (n c b o k : Nat) (hl : L.length = n) (hn : n ≤ 1048576) (hc : n ≤ c) (hlt : k < n) (w : World) (hS : Seg w (some ⟨b, o, none⟩) (L.flatMap strE)) :
    Calls Tryd.prog 21 #[.slice (some ⟨b, o, none⟩) n c, .int .i64 (k : Int)] w fun e w' => ∃ v, e = .returned v ∧ w'.ownsRow w.heap.size 9 1 v n ((turnN L k).flatMap strE) ∧ Below w.heap.size w w' := by
  have HL : Hid (L.length = n) := hl
  have HS : Hid (Seg w (some ⟨b, o, none⟩) (L.flatMap strE)) := hS
  have hkn : (k : Int) ≤ n := by omega
  have hknN : k ≤ n := by omega
  have hkcN : k ≤ c := by omega
  have hkc : (k : Int) ≤ c := by omega
  have hnc : (n : Int) ≤ c := by omega
  have hck : ¬ c = k := by omega
  have hck2 : ¬ (c - k = 0) := by omega
  clear hl hS
  go_enter Tryd.func21, Tryd.ntmps21
  go_wp2
  refine region_invA 9 (fun a0 listed a' w' => ∃ x5 x6 x7 x8 x9 x10 x11 x12 x13 : Value, a' = (((((((((a0.put (some 5) x5).put (some 6) x6).put (some 7) x7).put (some 8) x8).put (some 9) x9).put (some 10) x10).put (some 11) x11).put (some 12) x12).put (some 13) x13) ∧ Hid (Below w.heap.size w w') ∧ (listed.getD 4 false = true → listed.getD 0 false = true) ∧ (listed.getD 4 false = true → listed.getD 3 false = true) ∧ (listed.getD 8 false = true → listed.getD 4 false = true) ∧ (listed.getD 8 false = true → listed.getD 7 false = true) ∧ (listed.getD 3 false = true → listed.getD 1 false = true) ∧ (listed.getD 3 false = true → listed.getD 2 false = true) ∧ (listed.getD 0 false = true → listed.getD 4 false = false → w'.ownsRow w.heap.size 9 1 x5 0 []) ∧ (listed.getD 1 false = true → x6 = (.slice (some ⟨b, o, none⟩) n c)) ∧ (listed.getD 2 false = true → x7 = (.int .i64 (k : Int))) ∧ (listed.getD 3 false = true → x8 = (.slice (some ⟨b, o + k, none⟩) (n - k) (c - k))) ∧ (listed.getD 4 false = true → listed.getD 8 false = false → w'.ownsRow w.heap.size 9 1 x9 (0 + (n - k)) ([] ++ (L.drop k).flatMap strE)) ∧ (listed.getD 5 false = true → x10 = (.slice (some ⟨b, o, none⟩) n c)) ∧ (listed.getD 6 false = true → x11 = (.int .i64 (k : Int))) ∧ (listed.getD 7 false = true → x12 = (.slice (some ⟨b, o, none⟩) k c)) ∧ (listed.getD 8 false = true → w'.ownsRow w.heap.size 9 1 x13 (0 + (n - k) + k) ([] ++ (L.drop k).flatMap strE ++ (L.take k).flatMap strE))) (by kernel_rfl) (by kernel_rfl) ?i0 ?istep ?iend
  case i0 => exact ⟨_, _, _, _, _, _, _, _, _, by first | (simp only [Act.put, List.setIfInBounds_toArray, List.set_cons_succ, List.set_cons_zero]; done) | (simp only [Act.put, List.setIfInBounds_toArray, List.set_cons_succ, List.set_cons_zero]; rfl) | rfl, below_drew (Below.refl _ _), fun h => (not_rep h).elim, fun h => (not_rep h).elim, fun h => (not_rep h).elim, fun h => (not_rep h).elim, fun h => (not_rep h).elim, fun h => (not_rep h).elim, fun h => (not_rep h).elim, fun h => (not_rep h).elim, fun h => (not_rep h).elim, fun h => (not_rep h).elim, fun h => (not_rep h).elim, fun h => (not_rep h).elim, fun h => (not_rep h).elim, fun h => (not_rep h).elim, fun h => (not_rep h).elim⟩
  case istep =>
    rintro i listed a' w' hi hr ⟨x5, x6, x7, x8, x9, x10, x11, x12, x13, rfl, HBw, m4_0, m4_3, m8_4, m8_7, m3_1, m3_2, d0, d1, d2, d3, d4, d5, d6, d7, d8⟩
    obtain ⟨hun, oj, hoj, hwt⟩ := mem_ready.1 hr
    simp only [Act.put, List.setIfInBounds_toArray, List.set_cons_succ, List.set_cons_zero]
    have hcase : i = 0 ∨ i = 1 ∨ i = 2 ∨ i = 3 ∨ i = 4 ∨ i = 5 ∨ i = 6 ∨ i = 7 ∨ i = 8 := by omega
    rcases hcase with rfl | rfl | rfl | rfl | rfl | rfl | rfl | rfl | rfl
    · have hoj2 := hoj
      obtain rfl := Option.some.inj hoj
      refine wpOp_value hoj2 rfl (exec_build0 eStr rfl) ?_
      have B9 := F_b (Fresh.alloc w' (.cells #[] 9))
      exact ⟨_, x6, x7, x8, x9, x10, x11, x12, x13, by first | (simp only [Act.put, List.setIfInBounds_toArray, List.set_cons_succ, List.set_cons_zero]; done) | (simp only [Act.put, List.setIfInBounds_toArray, List.set_cons_succ, List.set_cons_zero]; rfl) | rfl, hb_then HBw B9, fun h => keepT (m4_0 (keep (by decide) h)), fun h => keepT (m4_3 (keep (by decide) h)), fun h => keepT (m8_4 (keep (by decide) h)), fun h => keepT (m8_7 (keep (by decide) h)), fun h => keepT (m3_1 (keep (by decide) h)), fun h => keepT (m3_2 (keep (by decide) h)), fun _ _ => (own_raise (own_build0 eStr w') HBw.out.size), fun h => (d1 (keep (by decide) h)), fun h => (d2 (keep (by decide) h)), fun h => (d3 (keep (by decide) h)), fun h => absurd (m4_0 (keep (by decide) h)) (by rw [getD_both hun]; simp), fun h => (d5 (keep (by decide) h)), fun h => (d6 (keep (by decide) h)), fun h => (d7 (keep (by decide) h)), fun h => (own_below (d8 (keep (by decide) h)) B9)⟩
    · have hoj2 := hoj
      obtain rfl := Option.some.inj hoj
      refine wpOp_value hoj2 rfl (v := (.slice (some ⟨b, o, none⟩) n c)) (w' := w') (by first | rfl | (go_simp; done) | (simp [go_sem]; done) | (simp [execOp, go_sem]; done)) ?_
      exact ⟨x5, (.slice (some ⟨b, o, none⟩) n c), x7, x8, x9, x10, x11, x12, x13, by first | (simp only [Act.put, List.setIfInBounds_toArray, List.set_cons_succ, List.set_cons_zero]; done) | (simp only [Act.put, List.setIfInBounds_toArray, List.set_cons_succ, List.set_cons_zero]; rfl) | rfl, HBw, fun h => keepT (m4_0 (keep (by decide) h)), fun h => keepT (m4_3 (keep (by decide) h)), fun h => keepT (m8_4 (keep (by decide) h)), fun h => keepT (m8_7 (keep (by decide) h)), fun h => keepT (m3_1 (keep (by decide) h)), fun h => keepT (m3_2 (keep (by decide) h)), fun h h2 => (d0 (keep (by decide) h) (keepG (by decide) h2)), fun _ => rfl, fun h => (d2 (keep (by decide) h)), fun h => absurd (m3_1 (keep (by decide) h)) (by rw [getD_both hun]; simp), fun h h2 => (d4 (keep (by decide) h) (keepG (by decide) h2)), fun h => (d5 (keep (by decide) h)), fun h => (d6 (keep (by decide) h)), fun h => (d7 (keep (by decide) h)), fun h => (d8 (keep (by decide) h))⟩
    · have hoj2 := hoj
      obtain rfl := Option.some.inj hoj
      refine wpOp_value hoj2 rfl (v := (.int .i64 (k : Int))) (w' := w') (by first | rfl | (go_simp; done) | (simp [go_sem]; done) | (simp [execOp, go_sem]; done)) ?_
      exact ⟨x5, x6, (.int .i64 (k : Int)), x8, x9, x10, x11, x12, x13, by first | (simp only [Act.put, List.setIfInBounds_toArray, List.set_cons_succ, List.set_cons_zero]; done) | (simp only [Act.put, List.setIfInBounds_toArray, List.set_cons_succ, List.set_cons_zero]; rfl) | rfl, HBw, fun h => keepT (m4_0 (keep (by decide) h)), fun h => keepT (m4_3 (keep (by decide) h)), fun h => keepT (m8_4 (keep (by decide) h)), fun h => keepT (m8_7 (keep (by decide) h)), fun h => keepT (m3_1 (keep (by decide) h)), fun h => keepT (m3_2 (keep (by decide) h)), fun h h2 => (d0 (keep (by decide) h) (keepG (by decide) h2)), fun h => (d1 (keep (by decide) h)), fun _ => rfl, fun h => absurd (m3_2 (keep (by decide) h)) (by rw [getD_both hun]; simp), fun h h2 => (d4 (keep (by decide) h) (keepG (by decide) h2)), fun h => (d5 (keep (by decide) h)), fun h => (d6 (keep (by decide) h)), fun h => (d7 (keep (by decide) h)), fun h => (d8 (keep (by decide) h))⟩
    · have hoj2 := hoj
      obtain rfl := Option.some.inj hoj
      have e1 := d1 (hwt ⟨1, .data⟩ (by simp) rfl)
      have e2 := d2 (hwt ⟨2, .data⟩ (by simp) rfl)
      subst e1 e2
      refine wpOp_value hoj2 rfl (v := (.slice (some ⟨b, o + k, none⟩) (n - k) (c - k))) (w' := w') (by first | rfl | (go_simp; done) | (simp [go_sem, hkn, hknN, hkcN, hkc, hnc, hck, hc, hck2]; done) | (simp [execOp, go_sem, hkn, hknN, hkcN, hkc, hnc, hck, hc, hck2]; done)) ?_
      exact ⟨x5, _, _, (.slice (some ⟨b, o + k, none⟩) (n - k) (c - k)), x9, x10, x11, x12, x13, by first | (simp only [Act.put, List.setIfInBounds_toArray, List.set_cons_succ, List.set_cons_zero]; done) | (simp only [Act.put, List.setIfInBounds_toArray, List.set_cons_succ, List.set_cons_zero]; rfl) | rfl, HBw, fun h => keepT (m4_0 (keep (by decide) h)), fun h => keepT (m4_3 (keep (by decide) h)), fun h => keepT (m8_4 (keep (by decide) h)), fun h => keepT (m8_7 (keep (by decide) h)), fun _ => keepT (hwt ⟨1, .data⟩ (by simp) rfl), fun _ => keepT (hwt ⟨2, .data⟩ (by simp) rfl), fun h h2 => (d0 (keep (by decide) h) (keepG (by decide) h2)), fun h => (d1 (keep (by decide) h)), fun h => (d2 (keep (by decide) h)), fun _ => rfl, fun h => absurd (m4_3 (keep (by decide) h)) (by rw [getD_both hun]; simp), fun h => (d5 (keep (by decide) h)), fun h => (d6 (keep (by decide) h)), fun h => (d7 (keep (by decide) h)), fun h => (d8 (keep (by decide) h))⟩
    · have hoj2 := hoj
      obtain rfl := Option.some.inj hoj
      have e0 := d0 (hwt ⟨0, .data⟩ (by simp) rfl) (getD_both hun)
      have e3 := d3 (hwt ⟨3, .data⟩ (by simp) rfl)
      subst e3
      have R9 : RowV w' (.slice (some ⟨b, o + k, none⟩) (n - k) (c - k)) (n - k) ((L.drop k).flatMap strE) := (by rw [← str_dropN]; exact ⟨_, _, rfl, seg_dropN (HS.out.below HBw.out), fun e => by cases e⟩)
      obtain ⟨v9, w9, hr9, O9, G9⟩ := run_appM eStr w.heap.size _ 0 _ e0 _ (n - k) ((L.drop k).flatMap strE) R9 (by rw [str_len]; simp only [List.length_drop, List.length_take, HL.out] <;> omega) (str_one _) (by omega) HBw.out.size _
      refine wpOp_value hoj2 rfl (exec_app _ _ rfl rfl rfl hr9) ?_
      have HBa : Hid (Below w.heap.size w w9) := grown_below HBw.out HBw.out.size e0 G9
      exact ⟨_, x6, x7, _, _, x10, x11, x12, x13, by first | (simp only [Act.put, List.setIfInBounds_toArray, List.set_cons_succ, List.set_cons_zero]; done) | (simp only [Act.put, List.setIfInBounds_toArray, List.set_cons_succ, List.set_cons_zero]; rfl) | rfl, HBa, fun _ => keepT (hwt ⟨0, .data⟩ (by simp) rfl), fun _ => keepT (hwt ⟨3, .data⟩ (by simp) rfl), fun h => keepT (m8_4 (keep (by decide) h)), fun h => keepT (m8_7 (keep (by decide) h)), fun h => keepT (m3_1 (keep (by decide) h)), fun h => keepT (m3_2 (keep (by decide) h)), fun _ h => absurd h (by rw [nowU hun]; simp), fun h => (d1 (keep (by decide) h)), fun h => (d2 (keep (by decide) h)), fun h => (d3 (keep (by decide) h)), fun _ _ => O9, fun h => (d5 (keep (by decide) h)), fun h => (d6 (keep (by decide) h)), fun h => (d7 (keep (by decide) h)), fun h => absurd (m8_4 (keep (by decide) h)) (by rw [getD_both hun]; simp)⟩
    · have hoj2 := hoj
      obtain rfl := Option.some.inj hoj
      refine wpOp_value hoj2 rfl (v := (.slice (some ⟨b, o, none⟩) n c)) (w' := w') (by first | rfl | (go_simp; done) | (simp [go_sem]; done) | (simp [execOp, go_sem]; done)) ?_
      exact ⟨x5, x6, x7, x8, x9, (.slice (some ⟨b, o, none⟩) n c), x11, x12, x13, by first | (simp only [Act.put, List.setIfInBounds_toArray, List.set_cons_succ, List.set_cons_zero]; done) | (simp only [Act.put, List.setIfInBounds_toArray, List.set_cons_succ, List.set_cons_zero]; rfl) | rfl, HBw, fun h => keepT (m4_0 (keep (by decide) h)), fun h => keepT (m4_3 (keep (by decide) h)), fun h => keepT (m8_4 (keep (by decide) h)), fun h => keepT (m8_7 (keep (by decide) h)), fun h => keepT (m3_1 (keep (by decide) h)), fun h => keepT (m3_2 (keep (by decide) h)), fun h h2 => (d0 (keep (by decide) h) (keepG (by decide) h2)), fun h => (d1 (keep (by decide) h)), fun h => (d2 (keep (by decide) h)), fun h => (d3 (keep (by decide) h)), fun h h2 => (d4 (keep (by decide) h) (keepG (by decide) h2)), fun _ => rfl, fun h => (d6 (keep (by decide) h)), fun h => (d7 (keep (by decide) h)), fun h => (d8 (keep (by decide) h))⟩
    · have hoj2 := hoj
      obtain rfl := Option.some.inj hoj
      refine wpOp_value hoj2 rfl (v := (.int .i64 (k : Int))) (w' := w') (by first | rfl | (go_simp; done) | (simp [go_sem]; done) | (simp [execOp, go_sem]; done)) ?_
      exact ⟨x5, x6, x7, x8, x9, x10, (.int .i64 (k : Int)), x12, x13, by first | (simp only [Act.put, List.setIfInBounds_toArray, List.set_cons_succ, List.set_cons_zero]; done) | (simp only [Act.put, List.setIfInBounds_toArray, List.set_cons_succ, List.set_cons_zero]; rfl) | rfl, HBw, fun h => keepT (m4_0 (keep (by decide) h)), fun h => keepT (m4_3 (keep (by decide) h)), fun h => keepT (m8_4 (keep (by decide) h)), fun h => keepT (m8_7 (keep (by decide) h)), fun h => keepT (m3_1 (keep (by decide) h)), fun h => keepT (m3_2 (keep (by decide) h)), fun h h2 => (d0 (keep (by decide) h) (keepG (by decide) h2)), fun h => (d1 (keep (by decide) h)), fun h => (d2 (keep (by decide) h)), fun h => (d3 (keep (by decide) h)), fun h h2 => (d4 (keep (by decide) h) (keepG (by decide) h2)), fun h => (d5 (keep (by decide) h)), fun _ => rfl, fun h => (d7 (keep (by decide) h)), fun h => (d8 (keep (by decide) h))⟩
    · have hoj2 := hoj
      obtain rfl := Option.some.inj hoj
      have e5 := d5 (hwt ⟨5, .data⟩ (by simp) rfl)
      have e6 := d6 (hwt ⟨6, .data⟩ (by simp) rfl)
      subst e5 e6
      refine wpOp_value hoj2 rfl (v := (.slice (some ⟨b, o, none⟩) k c)) (w' := w') (by first | rfl | (go_simp; done) | (simp [go_sem, hkn, hknN, hkcN, hkc, hnc, hck, hc, hck2]; done) | (simp [execOp, go_sem, hkn, hknN, hkcN, hkc, hnc, hck, hc, hck2]; done)) ?_
      exact ⟨x5, x6, x7, x8, x9, _, _, (.slice (some ⟨b, o, none⟩) k c), x13, by first | (simp only [Act.put, List.setIfInBounds_toArray, List.set_cons_succ, List.set_cons_zero]; done) | (simp only [Act.put, List.setIfInBounds_toArray, List.set_cons_succ, List.set_cons_zero]; rfl) | rfl, HBw, fun h => keepT (m4_0 (keep (by decide) h)), fun h => keepT (m4_3 (keep (by decide) h)), fun h => keepT (m8_4 (keep (by decide) h)), fun h => keepT (m8_7 (keep (by decide) h)), fun h => keepT (m3_1 (keep (by decide) h)), fun h => keepT (m3_2 (keep (by decide) h)), fun h h2 => (d0 (keep (by decide) h) (keepG (by decide) h2)), fun h => (d1 (keep (by decide) h)), fun h => (d2 (keep (by decide) h)), fun h => (d3 (keep (by decide) h)), fun h h2 => (d4 (keep (by decide) h) (keepG (by decide) h2)), fun h => (d5 (keep (by decide) h)), fun h => (d6 (keep (by decide) h)), fun _ => rfl, fun h => absurd (m8_7 (keep (by decide) h)) (by rw [getD_both hun]; simp)⟩
    · have hoj2 := hoj
      obtain rfl := Option.some.inj hoj
      have e4 := d4 (hwt ⟨4, .data⟩ (by simp) rfl) (getD_both hun)
      have e7 := d7 (hwt ⟨7, .data⟩ (by simp) rfl)
      subst e7
      have R9 : RowV w' (.slice (some ⟨b, o, none⟩) k c) k ((L.take k).flatMap strE) := (by rw [← str_takeN]; exact ⟨_, _, rfl, seg_takeN (HS.out.below HBw.out) _, fun e => by cases e⟩)
      obtain ⟨v9, w9, hr9, O9, G9⟩ := run_appM eStr w.heap.size _ (0 + (n - k)) _ e4 _ k ((L.take k).flatMap strE) R9 (by rw [str_len]; simp only [List.length_drop, List.length_take, HL.out] <;> omega) (str_one _) (by omega) HBw.out.size _
      refine wpOp_value hoj2 rfl (exec_app _ _ rfl rfl rfl hr9) ?_
      have HBa : Hid (Below w.heap.size w w9) := grown_below HBw.out HBw.out.size e4 G9
      exact ⟨x5, x6, x7, x8, _, x10, x11, _, _, by first | (simp only [Act.put, List.setIfInBounds_toArray, List.set_cons_succ, List.set_cons_zero]; done) | (simp only [Act.put, List.setIfInBounds_toArray, List.set_cons_succ, List.set_cons_zero]; rfl) | rfl, HBa, fun h => keepT (m4_0 (keep (by decide) h)), fun h => keepT (m4_3 (keep (by decide) h)), fun _ => keepT (hwt ⟨4, .data⟩ (by simp) rfl), fun _ => keepT (hwt ⟨7, .data⟩ (by simp) rfl), fun h => keepT (m3_1 (keep (by decide) h)), fun h => keepT (m3_2 (keep (by decide) h)), fun _ h => absurd (keepG (by decide) h) (by rw [(hwt ⟨4, .data⟩ (by simp) rfl)]; simp), fun h => (d1 (keep (by decide) h)), fun h => (d2 (keep (by decide) h)), fun h => (d3 (keep (by decide) h)), fun _ h => absurd h (by rw [nowU hun]; simp), fun h => (d5 (keep (by decide) h)), fun h => (d6 (keep (by decide) h)), fun h => (d7 (keep (by decide) h)), fun _ => O9⟩
  case iend =>
    rintro a' w' ⟨x5, x6, x7, x8, x9, x10, x11, x12, x13, rfl, HBw, m4_0, m4_3, m8_4, m8_7, m3_1, m3_2, d0, d1, d2, d3, d4, d5, d6, d7, d8⟩
    replace d1 := d1 rfl
    replace d2 := d2 rfl
    replace d3 := d3 rfl
    replace d5 := d5 rfl
    replace d6 := d6 rfl
    replace d7 := d7 rfl
    replace d8 := d8 rfl
    clear m4_0 m4_3 m8_4 m8_7 m3_1 m3_2 d0 d4
    simp only [Act.put, List.setIfInBounds_toArray, List.set_cons_succ, List.set_cons_zero]
    simp only [List.drop_succ_cons, List.drop_zero]
    have HO : Hid (w'.ownsRow w.heap.size 9 1 x13 n ((turnN L k).flatMap strE)) := (by
      have e1 : 0 + (n - k) + k = n := by omega
      have := d8
      rw [e1, List.nil_append, ← List.flatMap_append] at this
      exact this)
    clear d1 d2 d3 d5 d6 d7 d8
    go_wp2_with fail
    go_ret
    exact ⟨_, rfl, HO.out, HBw.out⟩
/-- Which one comes ahead, number by number. -/
def NuAt (L M : List ByteArray) (k : Nat) : Prop := LexAt (L.map nuF) (M.map nuF) k
theorem ret_boolC {a b : Bool} (h : a = b) : Ending.returned (.bool a) = Ending.returned (.bool b) := by rw [h]
set_option maxRecDepth 100000 in
set_option maxHeartbeats 4000000 in
theorem below_any (L M : List ByteArray) (n c1 c2 : Nat) (a1 a2 : Option Addr) (hl : L.length = n) (hm : M.length = n) (hn : n ≤ 1048576) (hv1 : ∀ s ∈ L, nuF s < 18) (hv2 : ∀ s ∈ M, nuF s < 18) (w : World) (hN : NmAt w) (h1 : Seg w a1 (L.flatMap strE)) (h2 : Seg w a2 (M.flatMap strE)) :
    Calls Tryd.prog 22 #[.slice a1 n c1, .slice a2 n c2] w fun e w' => e = .returned (.bool (lexF (L.map nuF) (M.map nuF))) ∧ w' = w := by
  have hC := fun s => number_any s w hN
  have H1 : Hid (Seg w a1 (L.flatMap strE)) := h1
  have H2 : Hid (Seg w a2 (M.flatMap strE)) := h2
  have HL : Hid (L.length = n) := hl
  have HM : Hid (M.length = n) := hm
  have HV1 : Hid (∀ s ∈ L, nuF s < 18) := hv1
  have HV2 : Hid (∀ s ∈ M, nuF s < 18) := hv2
  have hnI : (n : Int) ≤ 1048576 := by omega
  clear h1 h2 hl hm hv1 hv2 hN
  have HC : Hid (∀ s : ByteArray, Calls Tryd.prog 14 #[.string s] w fun e w' => e = .returned (.int .i64 (nuI s)) ∧ w' = w) := hC
  clear hC
  go_enter Tryd.func22, Tryd.ntmps22
  go_wp2
  go_loop [5] (fun i => ∃ k : Nat, k ≤ n ∧ i = .int .i64 (k : Int) ∧ Hid (NuAt L M k)) (fun i => n - (intOf i).toNat)
  case atStart => exact ⟨0, Nat.zero_le _, rfl, LexAt.zero _ _⟩
  case round =>
    obtain ⟨k, hk, rfl, HE⟩ := hrel
    by_cases hlt : k < n
    · have hki : (k : Int) < n := by omega
      obtain ⟨x, hx⟩ : ∃ e, L[k]? = some e := ⟨_, List.getElem?_eq_getElem (by rw [HL.out]; exact hlt)⟩
      obtain ⟨y, hy⟩ : ∃ e, M[k]? = some e := ⟨_, List.getElem?_eq_getElem (by rw [HM.out]; exact hlt)⟩
      obtain ⟨b1, o1, rfl, hb1, ca⟩ := seg_cell H1.out (str_at hx)
      obtain ⟨b2, o2, rfl, hb2, cb⟩ := seg_cell H2.out (str_at hy)
      have hxm : (L.map nuF)[k]? = some (nuF x) := by rw [List.getElem?_map, hx]; rfl
      have hym : (M.map nuF)[k]? = some (nuF y) := by rw [List.getElem?_map, hy]; rfl
      have HNe : Hid (nuF x ≠ nuF y → lexF (L.map nuF) (M.map nuF) = decide (nuF x < nuF y)) := fun h => LexAt.ne HE.out hxm hym h
      have HNx : Hid (nuF x = nuF y → NuAt L M (k + 1)) := fun h => by rw [← h] at hym; exact LexAt.next HE.out hxm hym
      have q1 := HC.out x
      have q2 := HC.out y
      rw [nuI_yes rfl (HV1.out x (List.mem_of_getElem? hx))] at q1
      rw [nuI_yes rfl (HV2.out y (List.mem_of_getElem? hy))] at q2
      clear HE hx hy hxm hym
      generalize nuF x = u at *
      generalize nuF y = v at *
      by_cases g : u = v
      · subst g
        have hd : ((u : Int) != (u : Int)) = false := by simp
        have HE2 : Hid (NuAt L M (k + 1)) := HNx.out rfl
        clear HNe HNx
        have t1 : True := trivial
        go_wp2_with (first
          | (clear t1; go_at_call 14; refine q1.mono ?_; rintro e' w' ⟨rfl, hw'⟩; replace hw' := hw'.symm; subst hw')
          | (go_at_call 14; refine q2.mono ?_; rintro e' w' ⟨rfl, hw'⟩; replace hw' := hw'.symm; subst hw'))
        go_round
        case rel => exact ⟨k + 1, by omega, by go_num, HE2⟩
        case measure => simp [intOf]; omega
      · have hd : ((u : Int) != (v : Int)) = true := by simp; omega
        have HZ : Hid (lexF (L.map nuF) (M.map nuF) = decide (u < v)) := HNe.out g
        clear HNe HNx g
        have t1 : True := trivial
        go_wp2_with (first
          | (clear t1; go_at_call 14; refine q1.mono ?_; rintro e' w' ⟨rfl, hw'⟩; replace hw' := hw'.symm; subst hw')
          | (go_at_call 14; refine q2.mono ?_; rintro e' w' ⟨rfl, hw'⟩; replace hw' := hw'.symm; subst hw'))
        go_ret
        exact ⟨ret_boolC HZ.out.symm, rfl⟩
    · have e : k = n := by omega
      subst e
      have HE2 : Hid (lexF (L.map nuF) (M.map nuF) = false) := LexAt.done HE.out (by rw [List.length_map, HL.out]; exact Nat.le_refl _)
      clear hlt HE
      go_wp2
      go_ret
      exact ⟨ret_boolC HE2.out.symm, rfl⟩
end Go.Proofs.YtbecabkdnjkkeaaDoor

/- Both Names; front, behind, both Places. -/
import Derived.Test.YtbelajboalikcaaX4
import Derived.Test.YtbelajboalikcaaD3
import Derived.Test.YtbelajboalikcaaShelf
import Derived.Test.YtbelajboalikcaaS1
namespace Go.Proofs.Ytbelajboalikcaa
open Go.RowKit M
set_option linter.unusedSimpArgs false
set_option linter.unusedVariables false

/-- Whether a text is a name. -/
def nameB (l : List UInt8) : Bool := decide (0 < l.length ∧ l.length ≤ 64 ∧ nameLen l = l.length)

set_option maxRecDepth 100000 in
set_option maxHeartbeats 1000000 in
theorem name_any (s : ByteArray) (hs : s.size ≤ maxLen) (w : World) : Calls Try.prog 20 #[.string s] w fun e w' => e = .returned (.bool (nameB s.data.toList)) ∧ w' = w := by
  have hs' := hs
  unfold maxLen at hs
  have hB : nameB s.data.toList = decide (0 < s.size ∧ s.size ≤ 64 ∧ nameLen s.data.toList = s.size) := by unfold nameB; rw [← sizeL]
  by_cases h0 : s.size = 0
  · have he : s.toList.isEmpty = true := emp_t (List.eq_nil_of_length_eq_zero (by rw [← sizeL]; exact h0))
    have hE : Hid (nameB s.data.toList = false) := (by show nameB _ = _; rw [hB]; exact decide_eq_false (by omega))
    clear h0 hB
    go_enter Try.func20, Try.ntmps20
    go_wp2
    go_ret
    exact ⟨ret_bool (by rw [hE.out]; try rfl), rfl⟩
  · have he : s.toList.isEmpty = false := emp_f (fun e => h0 (by rw [sizeL, e]; rfl))
    by_cases h1 : s.size ≤ 64
    · have hi : (s.size : Int) ≤ 64 := by omega
      have hN := fun w => nameLength_any s hs' (by omega) w
      have hE : Hid (nameB s.data.toList = decide (nameLen s.data.toList = s.size)) := (by show nameB _ = _; rw [hB, Bool.eq_iff_iff]; simp; omega)
      clear hB hs' h0
      generalize nameLen s.data.toList = k at *
      go_enter Try.func20, Try.ntmps20
      go_wp2_with (go_at_call 38; refine (hN _).mono ?_; rintro e w' ⟨rfl, hw'⟩; replace hw' := hw'.symm; subst hw')
      go_ret
      refine ⟨ret_bool ?_, rfl⟩
      rw [hE.out, Bool.eq_iff_iff]; simp; try omega
    · have hi : ¬ (s.size : Int) ≤ 64 := by omega
      have hE : Hid (nameB s.data.toList = false) := (by show nameB _ = _; rw [hB]; exact decide_eq_false (by omega))
      clear hB h0
      go_enter Try.func20, Try.ntmps20
      go_wp2
      go_ret
      exact ⟨ret_bool (by rw [hE.out]; try rfl), rfl⟩

set_option maxRecDepth 100000 in
set_option maxHeartbeats 1000000 in
theorem rName_any (s : ByteArray) (hs : s.size ≤ maxLen) (w : World) : Calls Try.prog 21 #[.string s] w fun e w' => e = .returned (.bool (nameB s.data.toList)) ∧ w' = w := by
  have hs' := hs
  unfold maxLen at hs
  have hB : nameB s.data.toList = decide (0 < s.size ∧ s.size ≤ 64 ∧ nameLen s.data.toList = s.size) := by unfold nameB; rw [← sizeL]
  by_cases h0 : s.size = 0
  · have he : ¬ (0 : Int) < s.size := by omega
    have hE : Hid (nameB s.data.toList = false) := (by show nameB _ = _; rw [hB]; exact decide_eq_false (by omega))
    clear h0 hB
    go_enter Try.func21, Try.ntmps21
    go_wp2
    go_ret
    exact ⟨ret_bool (by rw [hE.out]; try rfl), rfl⟩
  · have he : (0 : Int) < s.size := by omega
    by_cases h1 : s.size ≤ 64
    · have hi : (s.size : Int) ≤ 64 := by omega
      have hN := fun w => rname_any s hs' 0 (by omega) w
      rw [List.drop_zero] at hN
      have hE : Hid (nameB s.data.toList = decide (nameLen s.data.toList = s.size)) := (by show nameB _ = _; rw [hB, Bool.eq_iff_iff]; simp; omega)
      clear hB hs' h0
      generalize nameLen s.data.toList = k at *
      go_enter Try.func21, Try.ntmps21
      go_wp2_with (go_at_call 39; refine (hN _).mono ?_; rintro e w' ⟨rfl, hw'⟩; replace hw' := hw'.symm; subst hw')
      go_ret
      refine ⟨ret_bool ?_, rfl⟩
      rw [hE.out, Bool.eq_iff_iff]; simp; try omega
    · have hi : ¬ (s.size : Int) ≤ 64 := by omega
      have hE : Hid (nameB s.data.toList = false) := (by show nameB _ = _; rw [hB]; exact decide_eq_false (by omega))
      clear hB h0
      go_enter Try.func21, Try.ntmps21
      go_wp2
      go_ret
      exact ⟨ret_bool (by rw [hE.out]; try rfl), rfl⟩

/-- A spot as a value. -/
def spotV (p : Nat × Nat) : Value := .agg #[.int .i64 (p.1 : Nat), .int .i64 (p.2 : Nat)]

set_option maxRecDepth 100000 in
set_option maxHeartbeats 1000000 in
theorem front_any (w : World) : Calls Try.prog 27 #[] w fun e w' => e = .returned (spotV (1, 1)) ∧ Below w.heap.size w w' := by
  go_enter Try.func27, Try.ntmps27
  go_wp2
  exact bodyPost_ret (v := .agg #[.int .i64 1, .int .i64 1]) (by simp [results, Try.results27, go_sem]) rfl ⟨rfl, (Below.refl _ _).alloc (Nat.le_refl _) _⟩

set_option maxRecDepth 100000 in
set_option maxHeartbeats 1000000 in
theorem behind_any (a b : Nat) (s : ByteArray) (hs : s.size < 4611686018427387904) (ha : a < 2305843009213693952) (hb : b < 2305843009213693952) (w : World) :
    Calls Try.prog 37 #[.agg #[.int .i64 (a : Int), .int .i64 (b : Int)], .string s] w fun e w' => e = .returned (spotV (spotF (a, b) s.data.toList)) ∧ Below w.heap.size w w' := by
  have hLast := fun w => Try.strings_LastIndexByte s 10 hs w
  rcases spot_lib s (a, b) with ⟨h1, h2⟩ | ⟨i, hi, h1, h2⟩
  · rw [h1] at hLast
    have hE : Hid (spotF (a, b) s.data.toList = (a, b + s.size)) := h2
    clear h1 h2
    go_enter Try.func37, Try.ntmps37
    go_wp2_with (go_at_call 58; refine (hLast _).mono ?_; rintro e w' ⟨rfl, hw'⟩; replace hw' := hw'.symm; subst hw')
    refine bodyPost_ret (v := .agg #[.int .i64 (a : Int), .int .i64 ((b : Int) + s.size)]) (by simp [results, Try.results37, go_sem]) rfl ⟨?_, ((Below.refl _ _).alloc (Nat.le_refl _) _).alloc (by simp) _⟩
    rw [hE.out, spotV]
    simp
  · rw [h1] at hLast
    have hCnt := fun w => Try.strings_Count_one s 10 w
    have hcl : Lib.countByte s.data.toList 10 ≤ s.size := (by rw [sizeL]; exact List.count_le_length)
    have hE : Hid (spotF (a, b) s.data.toList = (a + Lib.countByte s.data.toList 10, s.size - i)) := h2
    clear h1 h2
    generalize Lib.countByte s.data.toList 10 = k at *
    have hj : ¬ ((i : Int) < 0) := by omega
    have hw1 : IntKind.i64.wrap ((a : Int) + k) = (a : Int) + k := by rw [IntKind.wrap_i64]; omega
    have hw2 : IntKind.i64.wrap ((s.size : Int) - i) = (s.size : Int) - i := by rw [IntKind.wrap_i64]; omega
    go_enter Try.func37, Try.ntmps37
    go_wp2_with (go_at_call 58; refine (hLast _).mono ?_; rintro e w' ⟨rfl, hw'⟩; replace hw' := hw'.symm; subst hw')
    go_region_with (go_at_call 59; refine (hCnt _).mono ?_; rintro e w' ⟨rfl, hw'⟩; replace hw' := hw'.symm; subst hw')
    all_goals go_wp2
    all_goals
      refine bodyPost_ret (v := .agg #[.int .i64 ((a : Int) + k), .int .i64 ((s.size : Int) - i)]) (by simp [results, Try.results37, go_sem, hw1, hw2]) rfl ⟨?_, ?_⟩
    all_goals first
      | (rw [hE.out, spotV]; simp; omega)
      | exact below_drew (((Below.refl _ _).alloc (Nat.le_refl _) _).alloc (by simp) _)

theorem info63 : (Try.prog.info? 63).map (·.size) = some 2 := by kernel_rfl
set_option maxRecDepth 100000 in
set_option maxHeartbeats 1000000 in
theorem place_in (s : ByteArray) (hs : s.size < 4611686018427387904) (p : Nat) (hp : p ≤ s.size) (w : World) :
    Calls Try.prog 18 #[.string s, .int .i64 (p : Int)] w fun e w' => e = .returned (.tuple #[.int .i64 ((spotF (1, 1) (s.data.toList.take p)).1 : Nat), .int .i64 ((spotF (1, 1) (s.data.toList.take p)).2 : Nat), .bool true]) ∧ Below w.heap.size w w' := by
  have hF : ∀ w, Calls Try.prog 27 #[] w fun e w' => e = .returned (.agg #[.int .i64 1, .int .i64 1]) ∧ Below w.heap.size w w' := fun w => front_any w
  have hBe : ∀ w, Calls Try.prog 37 #[.agg #[.int .i64 1, .int .i64 1], .string (s.extract 0 p)] w fun e w' => e = .returned (spotV (spotF (1, 1) (s.data.toList.take p))) ∧ Below w.heap.size w w' := fun w => by
    have := behind_any 1 1 (s.extract 0 p) (by rw [ByteArray.size_extract]; omega) (by omega) (by omega) w
    rw [exL, List.drop_zero] at this
    exact this
  generalize spotF (1, 1) (s.data.toList.take p) = q at *
  obtain ⟨q1, q2⟩ := q
  have h1 : ¬ ((p : Int) < 0) := by omega
  have h2 : ¬ ((s.size : Int) < p) := by omega
  have h3 : (p : Int) ≤ s.size := by omega
  go_enter Try.func18, Try.ntmps18
  go_wp2_with fail
  refine grow_make 5 _ (MadeS 63 [.int .i64 0, .int .i64 0] w) (by kernel_rfl) (by kernel_rfl) rfl rfl (madeS_grown _ _ w) (madeS_make _ _ Try.zeroValue63 rfl w) ?_
  simp only [List.take_succ_cons, List.take_zero, List.drop_succ_cons, List.drop_zero]
  refine wpG_call rfl (fun w _ => hF w) (fun w => by first | rfl | (go_simp; done)) ?_
  refine wpG_put rfl (v := .string s) (fun w => by first | rfl | (go_simp; done)) ?_
  refine wpG_put rfl (v := .int .i64 (p : Int)) (fun w => by first | rfl | (go_simp; done)) ?_
  simp only [Act.put, List.setIfInBounds_toArray, List.set_cons_succ, List.set_cons_zero]
  refine wpG_put rfl (v := .string (s.extract 0 p)) (fun w => by first | rfl | (go_simp; done)) ?_
  refine wpG_call rfl (fun w _ => hBe w) (fun w => by first | rfl | (go_simp; done)) ?_
  simp only [Act.put, List.setIfInBounds_toArray, List.set_cons_succ, List.set_cons_zero]
  refine wpG_nil ?_
  rintro v W6 ⟨hW6, b, rfl, hb, r⟩
  simp only [Act.put, List.setIfInBounds_toArray, List.set_cons_succ, List.set_cons_zero]
  refine wpList_storeS rfl 63 _ _ rfl rfl [.int .i64 (q1 : Int), .int .i64 (q2 : Int)] rfl r (by simp) info63 (by simp [Value.oneCell']) ?_
  intro W7 U7 r7
  have hB7 : Below w.heap.size w W7 := U7.trans hW6 hb
  have c0 : W7.cell? ⟨b, 0, none⟩ = some (.int .i64 (q1 : Int)) := r7.cell 0
  have c1 : W7.cell? ⟨b, 1, none⟩ = some (.int .i64 (q2 : Int)) := r7.cell 1
  clear hF hBe hW6 hb r U7 r7
  go_wp2_with fail
  go_quiet (fail)
  go_wp2
  go_ret3
  exact ⟨rfl, below_drewN hB7 _⟩
end Go.Proofs.Ytbelajboalikcaa

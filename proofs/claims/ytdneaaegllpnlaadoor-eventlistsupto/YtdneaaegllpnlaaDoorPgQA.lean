/- uses, number, rises: the reference's side. -/
import Derived.Test.YtdneaaegllpnlaaDoorPgPX
namespace Go.Proofs.YtdneaaegllpnlaaDoor
open Go.RowKit M
set_option linter.unusedSimpArgs false
set_option linter.unusedVariables false

def useT (k : Int) : Value := .tuple #[.bool (uReg k), .bool (uSrc k), .bool (uLoc k), .bool (uImm k)]
set_option maxRecDepth 100000 in
set_option maxHeartbeats 4000000 in
theorem uses_any (k : Int) (w : World) : Calls Tryd.prog 110 #[.int .i64 k] w fun en w' => en = .returned (useT k) ∧ w' = w := by
  by_cases h1 : k = 1
  · subst h1
    go_enter Tryd.func110, Tryd.ntmps110
    go_wp2_with fail
    refine bodyPost_ret (v := .tuple #[.bool true, .bool false, .bool false, .bool true]) (by simp [results, Tryd.results110, go_sem]) rfl ⟨?_, rfl⟩
    rfl
  have g1 : (k == 1) = false := by simpa using h1
  by_cases h2 : k = 2
  · subst h2
    go_enter Tryd.func110, Tryd.ntmps110
    go_wp2_with fail
    refine bodyPost_ret (v := .tuple #[.bool true, .bool true, .bool false, .bool false]) (by simp [results, Tryd.results110, go_sem]) rfl ⟨?_, rfl⟩
    rfl
  have g2 : (k == 2) = false := by simpa using h2
  by_cases h3 : k = 3
  · subst h3
    go_enter Tryd.func110, Tryd.ntmps110
    go_wp2_with fail
    refine bodyPost_ret (v := .tuple #[.bool true, .bool false, .bool true, .bool false]) (by simp [results, Tryd.results110, go_sem]) rfl ⟨?_, rfl⟩
    rfl
  have g3 : (k == 3) = false := by simpa using h3
  by_cases h4 : k = 4
  · subst h4
    go_enter Tryd.func110, Tryd.ntmps110
    go_wp2_with fail
    refine bodyPost_ret (v := .tuple #[.bool false, .bool false, .bool true, .bool true]) (by simp [results, Tryd.results110, go_sem]) rfl ⟨?_, rfl⟩
    rfl
  have g4 : (k == 4) = false := by simpa using h4
  by_cases h5 : k = 5
  · subst h5
    go_enter Tryd.func110, Tryd.ntmps110
    go_wp2_with fail
    refine bodyPost_ret (v := .tuple #[.bool false, .bool true, .bool true, .bool false]) (by simp [results, Tryd.results110, go_sem]) rfl ⟨?_, rfl⟩
    rfl
  have g5 : (k == 5) = false := by simpa using h5
  by_cases h7 : k = 7
  · subst h7
    go_enter Tryd.func110, Tryd.ntmps110
    go_wp2_with fail
    refine bodyPost_ret (v := .tuple #[.bool true, .bool false, .bool true, .bool false]) (by simp [results, Tryd.results110, go_sem]) rfl ⟨?_, rfl⟩
    rfl
  have g7 : (k == 7) = false := by simpa using h7
  by_cases h8 : k = 8
  · subst h8
    go_enter Tryd.func110, Tryd.ntmps110
    go_wp2_with fail
    refine bodyPost_ret (v := .tuple #[.bool false, .bool true, .bool true, .bool false]) (by simp [results, Tryd.results110, go_sem]) rfl ⟨?_, rfl⟩
    rfl
  have g8 : (k == 8) = false := by simpa using h8
  by_cases h9 : k = 9
  · subst h9
    go_enter Tryd.func110, Tryd.ntmps110
    go_wp2_with fail
    refine bodyPost_ret (v := .tuple #[.bool true, .bool false, .bool true, .bool false]) (by simp [results, Tryd.results110, go_sem]) rfl ⟨?_, rfl⟩
    rfl
  have g9 : (k == 9) = false := by simpa using h9
  have HE : Hid (useT k = .tuple #[.bool false, .bool false, .bool false, .bool false]) := (by show _ = _; simp [useT, uReg, uSrc, uLoc, uImm, *])
  clear h1 h2 h3 h4 h5 h7 h8 h9
  go_enter Tryd.func110, Tryd.ntmps110
  go_wp2_with fail
  refine bodyPost_ret (v := .tuple #[.bool false, .bool false, .bool false, .bool false]) (by simp [results, Tryd.results110, go_sem]) rfl ⟨?_, rfl⟩
  rw [HE.out]
def numF (l : List ByteArray) (s : ByteArray) : Option Nat := l.findIdx? fun x => x.toList == s.toList
theorem num_hit {l : List ByteArray} {s g : ByteArray} {j : Nat} (hg : l[j]? = some g) (h : (g.toList == s.toList) = true) (hno : ∀ i, i < j → ∀ x, l[i]? = some x → (x.toList == s.toList) = false) : numF l s = some j := by
  obtain ⟨hj, e⟩ := List.getElem?_eq_some_iff.1 hg
  unfold numF
  rw [List.findIdx?_eq_some_iff_getElem]
  refine ⟨hj, by rw [e]; exact h, fun i hi => ?_⟩
  rw [hno i hi _ (List.getElem?_eq_getElem (by omega))]; simp
theorem num_miss {l : List ByteArray} {s : ByteArray} (hno : ∀ i, i < l.length → ∀ x, l[i]? = some x → (x.toList == s.toList) = false) : numF l s = none := by
  unfold numF
  rw [List.findIdx?_eq_none_iff]
  intro x hx
  obtain ⟨i, hi⟩ := List.getElem?_of_mem hx
  exact hno i (List.getElem?_eq_some_iff.1 hi).1 x hi
set_option maxRecDepth 100000 in
set_option maxHeartbeats 4000000 in
theorem number_any (l : List ByteArray) (hl : l.length ≤ 1048576) (s : ByteArray) (a : Option Addr) (c : Nat) (w : World) (hs : Seg w a (l.flatMap strE)) :
    Calls Tryd.prog 111 #[.slice a l.length c, .string s] w fun en w' => en = .returned (.int .i64 (idxO (numF l s))) ∧ w' = w := by
  obtain ⟨nn, hnn⟩ : ∃ n, l.length = n := ⟨_, rfl⟩
  have HN : Hid (l.length = nn) := hnn
  have HS : Hid (Seg w a (l.flatMap strE)) := hs
  rw [hnn] at hl ⊢
  clear hnn hs
  go_enter Tryd.func111, Tryd.ntmps111
  go_wp2_with fail
  go_loop [5] (fun i => ∃ j : Nat, j ≤ nn ∧ i = .int .i64 j ∧ Hid (∀ i, i < j → ∀ x, l[i]? = some x → (x.toList == s.toList) = false)) (fun i => nn - (intOf i).toNat)
  case atStart => exact ⟨0, Nat.zero_le _, rfl, fun i hi => absurd hi (by omega)⟩
  case round =>
    obtain ⟨j, hj, rfl, HR⟩ := hrel
    by_cases hlt : j < nn
    · have hji : (j : Int) < nn := by omega
      obtain ⟨g, hg⟩ : ∃ g, l[j]? = some g := ⟨_, List.getElem?_eq_getElem (by rw [HN.out]; exact hlt)⟩
      have HG : Hid (l[j]? = some g) := hg
      obtain ⟨b, o, rfl, hb, hc⟩ := HS.out.str hg
      obtain ⟨q, hq⟩ : ∃ q, (g.toList == s.toList) = q := ⟨_, rfl⟩
      have HQ : Hid ((g.toList == s.toList) = q) := hq
      clear hg
      cases q with
      | true =>
        have HF : Hid (numF l s = some j) := num_hit HG.out HQ.out HR.out
        go_wp2_with fail
        go_ret
        exact ⟨by rw [HF.out]; rfl, rfl⟩
      | false =>
        go_wp2_with fail
        go_round
        case rel => exact ⟨j + 1, by omega, by go_num, fun i hi x hx => by
          rcases Nat.lt_or_ge i j with h | h
          · exact HR.out i h x hx
          · have : i = j := by omega
            subst this
            rw [HG.out] at hx; cases hx; exact HQ.out⟩
        case measure => simp [intOf]; omega
    · have hji : ¬ (j : Int) < nn := by omega
      have HF : Hid (numF l s = none) := num_miss fun i hi => HR.out i (by have := HN.out; omega)
      go_wp2_with fail
      go_ret
      exact ⟨by rw [HF.out]; rfl, rfl⟩
theorem ris_mono {kb : ByteArray → Bool} {l : List ByteArray} {i j : Nat} (h : RisTo kb l j) (hij : i ≤ j) : RisTo kb l i := fun k s hk => h k s (by omega)
def anyK : ByteArray → Bool := fun _ => true
set_option maxRecDepth 100000 in
set_option maxHeartbeats 4000000 in
theorem rises_any (l : List ByteArray) (hl : l.length ≤ 1048576) (a : Option Addr) (c : Nat) (w : World) (hs : Seg w a (l.flatMap strE)) :
    Calls Tryd.prog 89 #[.slice a l.length c] w fun en w' => en = .returned (.bool (risB anyK l)) ∧ Below w.heap.size w w' := by
  obtain ⟨nn, hnn⟩ : ∃ n, l.length = n := ⟨_, rfl⟩
  have HN : Hid (l.length = nn) := hnn
  have HS : Hid (Seg w a (l.flatMap strE)) := hs
  rw [hnn] at hl ⊢
  clear hnn hs
  go_enter Tryd.func89, Tryd.ntmps89
  go_wp2_with fail
  go_loopw [3] (fun i wr => ∃ j : Nat, j ≤ nn + 1 ∧ 1 ≤ j ∧ i = .int .i64 j ∧ Hid (RisTo anyK l j) ∧ Hid (Below w.heap.size w wr)) (fun i _ => nn + 1 - (intOf i).toNat)
  case atStart => exact ⟨1, by omega, by omega, rfl, fun i s hi hs => ⟨rfl, fun s' h => absurd h (by omega)⟩, Below.refl _ _⟩
  case round =>
    obtain ⟨j, hj, hj1, rfl, HR, HB⟩ := hrel
    by_cases hlt : j < nn
    · have hji : (j : Int) < nn := by omega
      obtain ⟨g, hg⟩ : ∃ g, l[j]? = some g := ⟨_, List.getElem?_eq_getElem (by rw [HN.out]; exact hlt)⟩
      have HG : Hid (l[j]? = some g) := hg
      obtain ⟨b, o, rfl, hb, hc⟩ := (HS.out.below HB.out).str hg
      obtain ⟨g', hg'⟩ : ∃ g, l[j - 1]? = some g := ⟨_, List.getElem?_eq_getElem (by rw [HN.out]; omega)⟩
      have HG' : Hid (l[j - 1]? = some g') := hg'
      obtain ⟨b', o', e', hb', hc'⟩ := (HS.out.below HB.out).str hg'
      cases e'
      obtain ⟨q, hq⟩ : ∃ q, Op.bytesLess g'.toList g.toList = q := ⟨_, rfl⟩
      have HQ : Hid (sLt g' g = q) := hq
      clear hg' hg
      have hjj : ((j : Int) - 1).toNat = j - 1 := by omega
      have hwr : IntKind.i64.wrap ((j : Int) - 1) = (j : Int) - 1 := IntWalk.i64_in _ (by omega)
      go_wp2_with fail
      refine grow_allW (by kernel_rfl) (by kernel_rfl) ?_
      refine WG.put rfl (v := .slice (some ⟨b, o, none⟩) nn c) (fun w => by first | rfl | (go_simp; done) | (simp [go_sem]; done)) ?_
      simp only [Act.put, List.setIfInBounds_toArray, List.set_cons_succ, List.set_cons_zero]
      refine WG.put rfl (v := .int .i64 (j : Int)) (fun w => by first | rfl | (go_simp; done) | (simp [go_sem]; done)) ?_
      simp only [Act.put, List.setIfInBounds_toArray, List.set_cons_succ, List.set_cons_zero]
      refine WG.put rfl (v := .int .i64 ((j : Int) - 1)) (fun w => by simp [execOp, go_sem, hwr]) ?_
      simp only [Act.put, List.setIfInBounds_toArray, List.set_cons_succ, List.set_cons_zero]
      refine WG.put rfl (v := .pointer (some ⟨b, o + (j - 1), none⟩)) (fun w => by simp [execOp, go_sem, hjj]; intro hx; exact absurd (hx (by omega)) (by omega)) ?_
      simp only [Act.put, List.setIfInBounds_toArray, List.set_cons_succ, List.set_cons_zero]
      refine WG.cell rfl 9 _ rfl rfl hc' (fun w h => ld9 w h) ?_
      simp only [Act.put, List.setIfInBounds_toArray, List.set_cons_succ, List.set_cons_zero]
      refine WG.put rfl (v := .slice (some ⟨b, o, none⟩) nn c) (fun w => by first | rfl | (go_simp; done) | (simp [go_sem]; done)) ?_
      simp only [Act.put, List.setIfInBounds_toArray, List.set_cons_succ, List.set_cons_zero]
      refine WG.put rfl (v := .int .i64 (j : Int)) (fun w => by first | rfl | (go_simp; done) | (simp [go_sem]; done)) ?_
      simp only [Act.put, List.setIfInBounds_toArray, List.set_cons_succ, List.set_cons_zero]
      refine WG.put rfl (v := .pointer (some ⟨b, o + j, none⟩)) (fun w => by first | rfl | (go_simp; done) | (simp [go_sem]; done)) ?_
      simp only [Act.put, List.setIfInBounds_toArray, List.set_cons_succ, List.set_cons_zero]
      refine WG.cell rfl 9 _ rfl rfl hc (fun w h => ld9 w h) ?_
      simp only [Act.put, List.setIfInBounds_toArray, List.set_cons_succ, List.set_cons_zero]
      refine WG.put rfl (v := .bool (!q)) (fun w => by simp [execOp, go_sem, hq]) ?_
      simp only [Act.put, List.setIfInBounds_toArray, List.set_cons_succ, List.set_cons_zero]
      refine WG.nil ?_
      intro W3 B3
      have B4 : Hid (Below w.heap.size w W3) := Below.then HB.out B3
      clear hq
      cases q with
      | false =>
        have HF : Hid (risB anyK l = false) := ris_f (ris_not_l HG.out (by omega) HG'.out HQ.out)
        go_wp2_with fail
        go_ret
        exact ⟨by rw [HF.out]; rfl, B4.out⟩
      | true =>
        have HX : Hid (RisTo anyK l (j + 1)) := ris_next HR.out HG.out rfl (fun s' _ h => by rw [HG'.out] at h; cases h; exact HQ.out)
        go_wp2_with fail
        go_roundw
        case rel => exact ⟨j + 1, by omega, by omega, by go_num, HX, B4⟩
        case measure => simp [intOf]; omega
    · have hji : ¬ (j : Int) < nn := by omega
      have HT : Hid (risB anyK l = true) := ris_t (ris_mono HR.out (by rw [HN.out]; omega))
      go_wp2_with fail
      go_ret
      exact ⟨by rw [HT.out]; rfl, HB.out⟩
end Go.Proofs.YtdneaaegllpnlaaDoor

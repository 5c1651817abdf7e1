/- rising: names that rise; the reference's rises. -/
import Derived.Test.YtdjlfpkemdiadaaDoorPgPV
namespace Go.Proofs.YtdjlfpkemdiadaaDoor
open Go.RowKit M
set_option linter.unusedSimpArgs false
set_option linter.unusedVariables false

def sLt (a b : ByteArray) : Bool := Op.bytesLess a.toList b.toList
/-- The names ahead of a number are of a kind, and rise. -/
def RisTo (kb : ByteArray → Bool) (l : List ByteArray) (j : Nat) : Prop := ∀ i s, i < j → l[i]? = some s → kb s = true ∧ ∀ s', 0 < i → l[i - 1]? = some s' → sLt s' s = true
noncomputable def risB (kb : ByteArray → Bool) (l : List ByteArray) : Bool := @decide (RisTo kb l l.length) (Classical.propDecidable _)
theorem ris_t {kb : ByteArray → Bool} {l : List ByteArray} (h : RisTo kb l l.length) : risB kb l = true := by unfold risB; exact @decide_eq_true _ (Classical.propDecidable _) h
theorem ris_f {kb : ByteArray → Bool} {l : List ByteArray} (h : ¬ RisTo kb l l.length) : risB kb l = false := by unfold risB; exact @decide_eq_false _ (Classical.propDecidable _) h
theorem ris_iff {kb : ByteArray → Bool} {l : List ByteArray} : risB kb l = true ↔ RisTo kb l l.length := by unfold risB; exact @decide_eq_true_iff _ (Classical.propDecidable _)
theorem ris_zero (kb : ByteArray → Bool) (l : List ByteArray) : RisTo kb l 0 := fun i s h => absurd h (by omega)
theorem ris_next {kb : ByteArray → Bool} {l : List ByteArray} {j : Nat} {g : ByteArray} (h : RisTo kb l j) (hg : l[j]? = some g) (hk : kb g = true) (hl : ∀ s', 0 < j → l[j - 1]? = some s' → sLt s' g = true) : RisTo kb l (j + 1) := fun i s hi hs => by
  rcases Nat.lt_or_ge i j with h' | h'
  · exact h i s h' hs
  · have : i = j := by omega
    subst this
    rw [hg] at hs; cases hs
    exact ⟨hk, hl⟩
theorem ris_not_k {kb : ByteArray → Bool} {l : List ByteArray} {j : Nat} {g : ByteArray} (hg : l[j]? = some g) (hk : kb g = false) : ¬ RisTo kb l l.length := fun h => by
  have := (h j g (List.getElem?_eq_some_iff.1 hg).1 hg).1
  rw [hk] at this; cases this
theorem ris_not_l {kb : ByteArray → Bool} {l : List ByteArray} {j : Nat} {g g' : ByteArray} (hg : l[j]? = some g) (h0 : 0 < j) (hg' : l[j - 1]? = some g') (hk : sLt g' g = false) : ¬ RisTo kb l l.length := fun h => by
  have := (h j g (List.getElem?_eq_some_iff.1 hg).1 hg).2 g' h0 hg'
  rw [hk] at this; cases this
/-- Kind and order apart. -/
theorem ris_parts (kb : ByteArray → Bool) (l : List ByteArray) : RisTo kb l l.length ↔ RisTo (fun _ => true) l l.length ∧ ∀ s ∈ l, kb s = true := by
  constructor
  · intro h
    refine ⟨fun i s hi hs => ⟨rfl, (h i s hi hs).2⟩, fun s hs => ?_⟩
    obtain ⟨i, hi⟩ := List.getElem?_of_mem hs
    exact (h i s (List.getElem?_eq_some_iff.1 hi).1 hi).1
  · rintro ⟨h1, h2⟩ i s hi hs
    exact ⟨h2 s (List.mem_of_getElem? hs), (h1 i s hi hs).2⟩
set_option maxRecDepth 100000 in
set_option maxHeartbeats 4000000 in
theorem rising_reg (l : List ByteArray) (hl : l.length ≤ 1048576) (a : Option Addr) (c : Nat) (w : World) (hs : Seg w a (l.flatMap strE)) :
    Calls Tryd.prog 25 #[.slice a l.length c, .func (.func 67) #[] #[]] w fun en w' => en = .returned (.bool (risB regB l)) ∧ w' = w := by
  obtain ⟨nn, hnn⟩ : ∃ n, l.length = n := ⟨_, rfl⟩
  have HN : Hid (l.length = nn) := hnn
  have HS : Hid (Seg w a (l.flatMap strE)) := hs
  rw [hnn] at hl ⊢
  clear hnn hs
  go_enter Tryd.func25, Tryd.ntmps25
  go_wp2_with fail
  go_loop [9] (fun i => ∃ j : Nat, j ≤ nn ∧ i = .int .i64 j ∧ Hid (RisTo regB l j)) (fun i => nn - (intOf i).toNat)
  case atStart => exact ⟨0, Nat.zero_le _, rfl, ris_zero _ _⟩
  case round =>
    obtain ⟨j, hj, rfl, HR⟩ := hrel
    by_cases hlt : j < nn
    · have hji : (j : Int) < nn := by omega
      obtain ⟨g, hg⟩ : ∃ g, l[j]? = some g := ⟨_, List.getElem?_eq_getElem (by rw [HN.out]; exact hlt)⟩
      have HG : Hid (l[j]? = some g) := hg
      obtain ⟨b, o, rfl, hb, hc⟩ := HS.out.str hg
      obtain ⟨kg, hkg⟩ : ∃ k, regB g = k := ⟨_, rfl⟩
      have cK : ∀ w, Calls Tryd.prog 67 #[.string g] w fun e w' => e = .returned (.bool (regB g)) ∧ w' = w := fun w => register_any g w
      have HK : Hid (regB g = kg) := hkg
      rw [show regB g = kg from hkg] at cK
      clear hg hkg
      cases kg with
      | false =>
        have HF : Hid (risB regB l = false) := ris_f (ris_not_k HG.out HK.out)
        go_wp2_with (go_at_call 67; refine (cK _).mono ?_; rintro en w' ⟨rfl, hw⟩; replace hw := hw.symm; subst hw)
        go_ret
        exact ⟨by rw [HF.out]; rfl, rfl⟩
      | true =>
        by_cases h0 : j = 0
        · have HX : Hid (RisTo regB l (j + 1)) := ris_next HR.out HG.out HK.out (fun _ h => absurd h (by omega))
          have hj0 : ¬ (0 : Int) < j := by omega
          clear h0
          go_wp2_with (go_at_call 67; refine (cK _).mono ?_; rintro en w' ⟨rfl, hw⟩; replace hw := hw.symm; subst hw)
          go_round
          case rel => exact ⟨j + 1, by omega, by go_num, HX⟩
          case measure => simp [intOf]; omega
        · have hj0 : (0 : Int) < j := by omega
          have hj1 : 0 < j := by omega
          obtain ⟨g', hg'⟩ : ∃ g, l[j - 1]? = some g := ⟨_, List.getElem?_eq_getElem (by rw [HN.out]; omega)⟩
          have HG' : Hid (l[j - 1]? = some g') := hg'
          obtain ⟨b', o', e', hb', hc'⟩ := HS.out.str hg'
          cases e'
          obtain ⟨q, hq⟩ : ∃ q, Op.bytesLess g'.toList g.toList = q := ⟨_, rfl⟩
          have HQ : Hid (sLt g' g = q) := hq
          clear hg'
          cases q with
          | false =>
            have HF : Hid (risB regB l = false) := ris_f (ris_not_l HG.out hj1 HG'.out HQ.out)
            go_wp2_with (go_at_call 67; refine (cK _).mono ?_; rintro en w' ⟨rfl, hw⟩; replace hw := hw.symm; subst hw)
            go_ret
            exact ⟨by rw [HF.out]; rfl, rfl⟩
          | true =>
            have HX : Hid (RisTo regB l (j + 1)) := ris_next HR.out HG.out HK.out (fun s' _ h => by rw [HG'.out] at h; cases h; exact HQ.out)
            go_wp2_with (go_at_call 67; refine (cK _).mono ?_; rintro en w' ⟨rfl, hw⟩; replace hw := hw.symm; subst hw)
            go_round
            case rel => exact ⟨j + 1, by omega, by go_num, HX⟩
            case measure => simp [intOf]; omega
    · have hji : ¬ (j : Int) < nn := by omega
      have HT : Hid (risB regB l = true) := (by
        refine ris_t ?_
        have := HR.out
        rw [show j = l.length by rw [HN.out]; omega] at this
        exact this)
      go_wp2_with fail
      go_ret
      exact ⟨by rw [HT.out]; rfl, rfl⟩
def nameK (s : ByteArray) : Bool := nameB s.data.toList
set_option maxRecDepth 100000 in
set_option maxHeartbeats 4000000 in
theorem rising_name (l : List ByteArray) (hl : l.length ≤ 1048576) (hz : ∀ s ∈ l, s.size ≤ maxLen) (a : Option Addr) (c : Nat) (w : World) (hs : Seg w a (l.flatMap strE)) :
    Calls Tryd.prog 25 #[.slice a l.length c, .func (.func 26) #[] #[]] w fun en w' => en = .returned (.bool (risB nameK l)) ∧ w' = w := by
  obtain ⟨nn, hnn⟩ : ∃ n, l.length = n := ⟨_, rfl⟩
  have HN : Hid (l.length = nn) := hnn
  have HZ : Hid (∀ s ∈ l, s.size ≤ maxLen) := hz
  have HS : Hid (Seg w a (l.flatMap strE)) := hs
  rw [hnn] at hl ⊢
  clear hnn hs hz
  go_enter Tryd.func25, Tryd.ntmps25
  go_wp2_with fail
  go_loop [9] (fun i => ∃ j : Nat, j ≤ nn ∧ i = .int .i64 j ∧ Hid (RisTo nameK l j)) (fun i => nn - (intOf i).toNat)
  case atStart => exact ⟨0, Nat.zero_le _, rfl, ris_zero _ _⟩
  case round =>
    obtain ⟨j, hj, rfl, HR⟩ := hrel
    by_cases hlt : j < nn
    · have hji : (j : Int) < nn := by omega
      obtain ⟨g, hg⟩ : ∃ g, l[j]? = some g := ⟨_, List.getElem?_eq_getElem (by rw [HN.out]; exact hlt)⟩
      have HG : Hid (l[j]? = some g) := hg
      obtain ⟨b, o, rfl, hb, hc⟩ := HS.out.str hg
      obtain ⟨kg, hkg⟩ : ∃ k, nameK g = k := ⟨_, rfl⟩
      have cK : ∀ w, Calls Tryd.prog 26 #[.string g] w fun e w' => e = .returned (.bool (nameK g)) ∧ w' = w := fun w => name_any g (HZ.out g (List.mem_of_getElem? HG.out)) w
      have HK : Hid (nameK g = kg) := hkg
      rw [show nameK g = kg from hkg] at cK
      clear hg hkg
      cases kg with
      | false =>
        have HF : Hid (risB nameK l = false) := ris_f (ris_not_k HG.out HK.out)
        go_wp2_with (go_at_call 26; refine (cK _).mono ?_; rintro en w' ⟨rfl, hw⟩; replace hw := hw.symm; subst hw)
        go_ret
        exact ⟨by rw [HF.out]; rfl, rfl⟩
      | true =>
        by_cases h0 : j = 0
        · have HX : Hid (RisTo nameK l (j + 1)) := ris_next HR.out HG.out HK.out (fun _ h => absurd h (by omega))
          have hj0 : ¬ (0 : Int) < j := by omega
          clear h0
          go_wp2_with (go_at_call 26; refine (cK _).mono ?_; rintro en w' ⟨rfl, hw⟩; replace hw := hw.symm; subst hw)
          go_round
          case rel => exact ⟨j + 1, by omega, by go_num, HX⟩
          case measure => simp [intOf]; omega
        · have hj0 : (0 : Int) < j := by omega
          have hj1 : 0 < j := by omega
          obtain ⟨g', hg'⟩ : ∃ g, l[j - 1]? = some g := ⟨_, List.getElem?_eq_getElem (by rw [HN.out]; omega)⟩
          have HG' : Hid (l[j - 1]? = some g') := hg'
          obtain ⟨b', o', e', hb', hc'⟩ := HS.out.str hg'
          cases e'
          obtain ⟨q, hq⟩ : ∃ q, Op.bytesLess g'.toList g.toList = q := ⟨_, rfl⟩
          have HQ : Hid (sLt g' g = q) := hq
          clear hg'
          cases q with
          | false =>
            have HF : Hid (risB nameK l = false) := ris_f (ris_not_l HG.out hj1 HG'.out HQ.out)
            go_wp2_with (go_at_call 26; refine (cK _).mono ?_; rintro en w' ⟨rfl, hw⟩; replace hw := hw.symm; subst hw)
            go_ret
            exact ⟨by rw [HF.out]; rfl, rfl⟩
          | true =>
            have HX : Hid (RisTo nameK l (j + 1)) := ris_next HR.out HG.out HK.out (fun s' _ h => by rw [HG'.out] at h; cases h; exact HQ.out)
            go_wp2_with (go_at_call 26; refine (cK _).mono ?_; rintro en w' ⟨rfl, hw⟩; replace hw := hw.symm; subst hw)
            go_round
            case rel => exact ⟨j + 1, by omega, by go_num, HX⟩
            case measure => simp [intOf]; omega
    · have hji : ¬ (j : Int) < nn := by omega
      have HT : Hid (risB nameK l = true) := (by
        refine ris_t ?_
        have := HR.out
        rw [show j = l.length by rw [HN.out]; omega] at this
        exact this)
      go_wp2_with fail
      go_ret
      exact ⟨by rw [HT.out]; rfl, rfl⟩
end Go.Proofs.YtdjlfpkemdiadaaDoor

/- The law LitmusSplits. -/
import Derived.Test.YtpbcngnginffgaaDoorSW4
namespace Go.Proofs.YtpbcngnginffgaaDoor
open Go.RowKit Go.Shelf M
set_option linter.unusedSimpArgs false
set_option linter.unusedVariables false

/-- Where a piece begins. -/
def posn : List (Nat × Nat) → Nat → Nat → Nat
  | _, a, 0 => a
  | [], a, _ + 1 => a
  | p :: t, _, j + 1 => posn t p.2 j
theorem posn_at : ∀ {o : List (Nat × Nat)} {a b j : Nat} {p : Nat × Nat}, Cover o a b → o[j]? = some p → p.1 = posn o a j ∧ p.1 < p.2 ∧ p.2 = posn o a (j + 1) ∧ p.2 ≤ b
  | [], a, b, j, p, h, hp => by simp at hp
  | (x, y) :: t, a, b, 0, p, h, hp => by
    simp at hp
    subst hp
    refine ⟨h.1, by rw [h.1]; exact h.2.1, ?_, cover_le h.2.2⟩
    cases t <;> rfl
  | (x, y) :: t, a, b, j + 1, p, h, hp => by
    have := posn_at (o := t) h.2.2 (by simpa using hp)
    exact this
theorem posn_end : ∀ {o : List (Nat × Nat)} {a b : Nat}, Cover o a b → posn o a o.length = b
  | [], a, b, h => h
  | (x, y) :: t, a, b, h => posn_end (o := t) h.2.2
theorem cover_len : ∀ {o : List (Nat × Nat)} {a b : Nat}, Cover o a b → o.length + a ≤ b
  | [], a, b, h => by rw [show a = b from h]; simp
  | (x, y) :: t, a, b, h => by have := cover_len h.2.2; have := h.2.1; simp only [List.length_cons]; omega
theorem blank_get {s : ByteArray} {a k : Nat} (h : blankB (s.data.toList.take a) = true) (hk : k < a) (hs : k < s.size) : blkC s[k] = true := by
  unfold blankB at h
  rw [List.all_eq_true] at h
  refine h s[k] (List.mem_of_getElem? (i := k) ?_)
  rw [List.getElem?_take, if_pos hk, get_toNat s k hs]
/-- Texts in memory. -/
def Strs (W : World) (a : Option Addr) (s : ByteArray) (o : List (Nat × Nat)) : Prop := ∀ j p, o[j]? = some p → ∃ b, a = some ⟨b, 0, none⟩ ∧ b < W.heap.size ∧ W.cell? ⟨b, j, none⟩ = some (.string (s.extract p.1 p.2))
theorem Strs.grown {W W' : World} {a : Option Addr} {s : ByteArray} {o : List (Nat × Nat)} (h : Strs W a s o) (hB : Below W.heap.size W W') : Strs W' a s o := fun j p hp => by
  obtain ⟨b, h1, h2, h3⟩ := h j p hp
  exact ⟨b, h1, Nat.lt_of_lt_of_le h2 hB.size, by rw [hB.cell (p := ⟨b, j, none⟩) h2]; exact h3⟩
theorem own_strs {w W : World} {s : ByteArray} {v : Value} {n : Nat} {o : List (Nat × Nat)} (h : SP w W s v n o) : ∃ a cap, v = .slice a n cap ∧ Strs W a s o := by
  rcases h.own.2 with ⟨rfl, h0⟩ | ⟨g, cap, cur, rfl, hg, hh, rest⟩
  · refine ⟨none, 0, by rw [h0], fun j p hp => ?_⟩
    have := (List.getElem?_eq_some_iff.1 hp).1
    have := h.len
    omega
  · refine ⟨_, cap, rfl, fun j p hp => ⟨g, rfl, (Array.getElem?_eq_some_iff.1 hh).1, ?_⟩⟩
    have hc : (pcs s o)[j]? = some (.string (s.extract p.1 p.2)) := by unfold pcs; rw [List.getElem?_map, hp]; rfl
    rw [cell_of_row W g _ cur 9 (0, 0) hh]
    rw [← rest.2.2.2, List.getElem?_take] at hc
    split at hc
    · simpa using hc
    · cases hc

set_option maxRecDepth 100000 in
set_option maxHeartbeats 4000000 in
theorem splits_any (s : ByteArray) (hs : s.size ≤ 1048576) (w : World) : Calls Tryd.prog 3 #[.string s] w fun e w' => e = .returned (.bool true) ∧ Below w.heap.size w w' := by
  have cP := fun w => split_any s hs w
  have cR := fun w => rsplit_any s hs w
  obtain ⟨a0, hcov, hbl⟩ := split_cover s.data.toList
  rw [← sizeL] at hcov
  have HC : Hid (Cover (splitF s.data.toList) a0 s.size) := hcov
  have HBl : Hid (blankB (s.data.toList.take a0) = true) := hbl
  have hple := cover_le hcov
  have hol0 := cover_len hcov
  clear hcov hbl
  generalize splitF s.data.toList = o at *
  have hol : o.length ≤ 1048576 := by omega
  clear hol0
  go_enter Tryd.func3, Tryd.ntmps3
  go_wp2_with (first
    | (go_at_call 4; refine (cP _).mono ?_; rintro e W1 ⟨v1, rfl, P1⟩; have B1 := P1.B; obtain ⟨x1, c1, rfl, S1⟩ := own_strs P1; clear P1 cP)
    | (go_at_call 5; refine (cR _).mono ?_; rintro e W2 ⟨v2, rfl, P2⟩; have S3 := S1.grown P2.B; have B2 := Below.then B1 P2.B; obtain ⟨x2, c2, rfl, S2⟩ := own_strs P2; clear P2 S1 B1 cR))
  go_loopw [5, 6] (fun q i wr => ∃ j : Nat, j ≤ o.length ∧ i = .int .i64 (j : Int) ∧ q = .int .i64 ((posn o a0 j : Int) - a0) ∧ Hid (a0 ≤ posn o a0 j ∧ posn o a0 j ≤ s.size) ∧ Hid (Below W2.heap.size W2 wr)) (fun _ i _ => o.length - (intOf i).toNat)
  case atStart => exact ⟨0, Nat.zero_le _, rfl, by cases o <;> simp [posn], ⟨by cases o <;> exact Nat.le_refl _, by cases o <;> exact hple⟩, Below.refl _ _⟩
  case round =>
    obtain ⟨j, hj, rfl, rfl, HA, HB⟩ := hrel
    by_cases hlt : j < o.length
    · have hi : (j : Int) < o.length := by omega
      obtain ⟨p, hp⟩ : ∃ p, o[j]? = some p := ⟨_, List.getElem?_eq_getElem hlt⟩
      obtain ⟨b1, rfl, hb1, hc1⟩ := (S3.grown HB.out) j p hp
      obtain ⟨b2, rfl, hb2, hc2⟩ := (S2.grown HB.out) j p hp
      obtain ⟨g1, g2, g3, g4⟩ := posn_at HC.out hp
      obtain ⟨A1, A2⟩ := HA.out
      have hsz : (s.extract p.1 p.2).size = p.2 - p.1 := by rw [ByteArray.size_extract]; omega
      have hne : (s.extract p.1 p.2).toList.isEmpty = false := emp_f (fun e => by have := congrArg List.length e; rw [← sizeL, hsz] at this; simp at this; omega)
      have HS : Hid ((posn o a0 j : Int) - a0 + (s.extract p.1 p.2).size = (posn o a0 (j + 1) : Int) - a0) := (by show _ = _; rw [hsz]; omega)
      have HA2 : Hid (a0 ≤ posn o a0 (j + 1) ∧ posn o a0 (j + 1) ≤ s.size) := ⟨by omega, by omega⟩
      have hz1 : (s.extract p.1 p.2).size ≤ 1048576 := by omega
      have hz2 : (0 : Int) ≤ (posn o a0 j : Int) - a0 := by omega
      have hz3 : (posn o a0 j : Int) - a0 ≤ 1048576 := by omega
      clear hsz HA g1 g2 g3 g4 hp
      generalize s.extract p.1 p.2 = t at *
      generalize (posn o a0 j : Int) - a0 = z at *
      go_wp2_with fail
      go_quiet (fail)
      have HB2 : Hid (Below W2.heap.size W2 (wr.drewN nq)) := below_drewN HB.out _
      have hd1 : (wr.drewN nq).cell? ⟨b1, j, none⟩ = some (.string t) := hc1
      clear hc1 hc2 HB
      generalize wr.drewN nq = wx at *
      go_wp2_with fail
      go_roundw
      case rel => exact ⟨j + 1, by omega, by go_num, by rw [HS.out], HA2, HB2⟩
      case measure => simp [intOf]; omega
    · have hje : j = o.length := by omega
      subst hje
      have hpe : posn o a0 o.length = s.size := posn_end HC.out
      rw [hpe]
      have hz1 : (s.size : Int) - a0 ≤ s.size := by omega
      have hz2 : (0 : Int) ≤ (s.size : Int) - a0 := by omega
      have HZ : Hid ((s.size : Int) - ((s.size : Int) - a0) = (a0 : Int)) := (by show _ = _; omega)
      have BW : Hid (Below w.heap.size w wr) := Below.then B2 HB.out
      have HS1 : Hid (Strs wr x1 s o) := S3.grown HB.out
      clear HA HB S3 S2 B2 hpe hlt
      generalize (s.size : Int) - a0 = z at *
      go_wp2_with fail
      rw [HZ.out]
      go_loop [8] (fun i => ∃ k : Nat, k ≤ a0 ∧ i = .int .i64 (k : Int)) (fun i => a0 - (intOf i).toNat)
      case atStart => exact ⟨0, Nat.zero_le _, rfl⟩
      case round =>
        obtain ⟨k, hk, rfl⟩ := hrel
        by_cases hka : k < a0
        · have hi1 : (k : Int) < a0 := by omega
          have hks : k < s.size := by omega
          have hi2 : (k : Int) < s.size := by omega
          have hb := blank_get HBl.out hka hks
          rw [blk_form] at hb
          simp only [Bool.not_eq_true', Bool.and_eq_false_iff] at hb
          clear HS1 HC
          rcases hb with ((h1 | h1) | h1) | h1
          all_goals go_wp2_with fail
          all_goals first | (exfalso; simp_all; done) | skip
          all_goals go_round
          all_goals first | (case rel => exact ⟨k + 1, by omega, by go_num⟩) | skip
          all_goals (simp [intOf]; omega)
        · have hi1 : ¬ ((k : Int) < a0) := by omega
          clear HBl HZ hz1 hz2
          go_wp2_with fail
          go_loopw [7, 9] (fun p i wr => ∃ j : Nat, j ≤ o.length ∧ i = .int .i64 (j : Int) ∧ p = .int .i64 (posn o a0 j : Int) ∧ Hid (Below w.heap.size w wr) ∧ Hid (Strs wr x1 s o)) (fun _ i _ => o.length - (intOf i).toNat)
          case atStart => exact ⟨0, Nat.zero_le _, rfl, by cases o <;> rfl, BW, HS1⟩
          case round =>
            obtain ⟨j, hj, rfl, rfl, HB, HS⟩ := hrel
            clear BW HS1
            by_cases hlt : j < o.length
            · have hi : (j : Int) < o.length := by omega
              obtain ⟨p, hp⟩ : ∃ p, o[j]? = some p := ⟨_, List.getElem?_eq_getElem hlt⟩
              obtain ⟨b1, rfl, hb1, hc1⟩ := HS.out j p hp
              obtain ⟨g1, g2, g3, g4⟩ := posn_at HC.out hp
              have hsz : (s.extract p.1 p.2).size = p.2 - p.1 := by rw [ByteArray.size_extract]; omega
              have HP : Hid (posn o a0 (j + 1) = p.2) := g3.symm
              rw [← g1]
              obtain ⟨p1, p2⟩ := p
              dsimp only at *
              clear g1 g3 hp
              obtain ⟨m, rfl⟩ : ∃ m, p2 = p1 + m := ⟨p2 - p1, by omega⟩
              have hsz2 : (s.extract p1 (p1 + m)).size = m := by omega
              have hm1 : (p1 : Int) + m ≤ s.size := by omega
              have hm2 : (p1 : Int) ≤ (p1 : Int) + m := by omega
              clear hsz
              go_wp2_with fail
              go_quiet (fail)
              have HB2 : Hid (Below w.heap.size w (wr.drewN nq)) := below_drewN HB.out _
              have HS2 : Hid (Strs (wr.drewN nq) (some ⟨b1, 0, none⟩) s o) := fun i q hq => HS.out i q hq
              have hd1 : (wr.drewN nq).cell? ⟨b1, j, none⟩ = some (.string (s.extract p1 (p1 + m))) := hc1
              clear hc1 HB HS
              generalize wr.drewN nq = wx at *
              go_wp2_with fail
              go_roundw
              case rel => exact ⟨j + 1, by omega, by go_num, by rw [HP.out]; simp, HB2, HS2⟩
              case measure => simp [intOf]; omega
            · clear HS
              go_wp2_with fail
              go_ret
              exact ⟨rfl, HB.out⟩
end Go.Proofs.YtpbcngnginffgaaDoor

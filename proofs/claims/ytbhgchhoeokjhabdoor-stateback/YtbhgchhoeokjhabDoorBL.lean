/- StateBack: the law, in every case. -/
import Derived.Test.YtbhgchhoeokjhabDoorBK
namespace Go.Proofs.YtbhgchhoeokjhabDoor
open Go Go.RowKit M
set_option linter.unusedSimpArgs false
set_option linter.unusedVariables false

def codeB (x : FS) : ByteArray := ⟨(codeF x).toArray⟩
theorem codeB_size (x : FS) : (codeB x).size = (codeF x).length := size_mk _
theorem codeB_list (x : FS) : (codeB x).data.toList = codeF x := by simp [codeB]
theorem codeF_small {x : FS} (hx : Wf x) : (codeF x).length ≤ 490 := by
  unfold codeF
  split
  · rename_i h
    obtain ⟨N, hN, hN'⟩ := okF_n h
    rw [hN, Int.toNat_natCast]
    exact codeK_len x hx N N hN'
  · simp
theorem codeB_max {x : FS} (hx : Wf x) : (codeB x).size ≤ maxLen := by
  rw [codeB_size]
  exact Nat.le_trans (codeF_small hx) (by decide)
theorem codeV_ok {x : FS} (h : okF x = true) : codeV x = .tuple #[.string (codeB x), .int .i64 0] := by
  unfold codeV codeB ckF; rw [if_pos h]
theorem codeV_no {x : FS} (h : okF x = false) : codeV x = .tuple #[.string (codeB x), .int .i64 4] := by
  unfold codeV codeB ckF; rw [h]; rfl
theorem codeB_begins {x y : FS} (hx : Wf x) (hy : Wf y) (h : okF x = true) (h' : okF y = true) (hl : (codeB x).size ≤ (codeB y).size) : (((codeB y).extract 0 (codeB x).size).toList == (codeB x).toList) = decide (x = y) := by
  rw [codeB_size, codeB_size] at hl
  rw [← begins_iff hx hy h h' hl, toL, toL, exL, codeB_list, codeB_list, codeB_size, List.drop_zero]
  rw [Bool.eq_iff_iff]; simp
theorem back_any (x y : FS) (hx : Wf x) (hy : Wf y) (s : ByteArray) (hs : s.size ≤ maxLen) (w : World) (hT : Tab10 w) :
    Calls Tryd.prog 4 #[.agg (encF x).toArray, .agg (encF y).toArray, .string s] w fun e w' => e = .returned (.bool true) ∧ Below w.heap.size w w' := by
  have k1 := fun W => code_any x hx W
  have k2 := fun W => code_any y hy W
  have ks := fun W => decode_any s hs W
  have hD : decO s = none ∨ ∃ z, decO s = some z := by cases decO s <;> simp
  have kz : ∀ z, decO s = some z → ∀ W, Calls Tryd.prog 17 #[.agg (encF z).toArray] W fun e w' => e = .returned (.tuple #[.string s, .int .i64 0]) ∧ Below W.heap.size W w' := fun z hz W => by
    obtain ⟨wz, oz, cz⟩ := decO_some hz
    have := code_any z wz W
    rw [codeV_ok oz, show codeB z = s by unfold codeB; rw [cz]] at this
    exact this
  have kc : ∀ z, decO s = some z → ∀ W, Calls Tryd.prog 15 #[.agg (encF z).toArray] W fun e w' => e = .returned (.int .i64 0) ∧ Below W.heap.size W w' := fun z hz W => by
    obtain ⟨wz, oz, cz⟩ := decO_some hz
    have := check_any z W
    rw [show ckF z = 0 by unfold ckF; rw [if_pos oz]] at this
    exact this
  cases ox : okF x with
  | false =>
    rw [codeV_no ox] at k1
    unfold codeV at k2
    rcases hD with hz | ⟨z, hz⟩
    · rw [decV_none hz] at ks
      exact back_11 x y _ _ s _ k1 k2 ks w hT
    · rw [decV_some hz] at ks
      exact back_12 x y _ _ s _ z k1 k2 ks (kz z hz) (kc z hz) w hT
  | true =>
    rw [codeV_ok ox] at k1
    have kd := fun W => decode_any (codeB x) (codeB_max hx) W
    rw [decV_some (show decO (codeB x) = some x from decO_code hx ox)] at kd
    cases oy : okF y with
    | false =>
      rw [codeV_no oy] at k2
      rcases hD with hz | ⟨z, hz⟩
      · rw [decV_none hz] at ks
        exact back_21 x y _ _ s k1 k2 kd ks w hT
      · rw [decV_some hz] at ks
        exact back_22 x y _ _ s z k1 k2 kd ks (kz z hz) (kc z hz) w hT
    | true =>
      rw [codeV_ok oy] at k2
      by_cases hl : (codeB x).size ≤ (codeB y).size
      · have hb := codeB_begins hx hy ox oy hl
        cases hd : decide (x = y) with
        | true =>
          rw [hd] at hb
          rcases hD with hz | ⟨z, hz⟩
          · rw [decV_none hz] at ks
            exact back_3t1 x y _ _ s k1 k2 kd (codeB_max hx) (codeB_max hy) hl hb hd ks w hT
          · rw [decV_some hz] at ks
            exact back_3t2 x y _ _ s z k1 k2 kd (codeB_max hx) (codeB_max hy) hl hb hd ks (kz z hz) (kc z hz) w hT
        | false =>
          rw [hd] at hb
          rcases hD with hz | ⟨z, hz⟩
          · rw [decV_none hz] at ks
            exact back_3f1 x y _ _ s k1 k2 kd (codeB_max hx) (codeB_max hy) hl hb hd ks w hT
          · rw [decV_some hz] at ks
            exact back_3f2 x y _ _ s z k1 k2 kd (codeB_max hx) (codeB_max hy) hl hb hd ks (kz z hz) (kc z hz) w hT
      · have hd : decide (x = y) = false := begins_no (by rw [← codeB_size, ← codeB_size]; exact hl)
        rcases hD with hz | ⟨z, hz⟩
        · rw [decV_none hz] at ks
          exact back_41 x y _ _ s k1 k2 kd (codeB_max hx) (codeB_max hy) (by omega) hd ks w hT
        · rw [decV_some hz] at ks
          exact back_42 x y _ _ s z k1 k2 kd (codeB_max hx) (codeB_max hy) (by omega) hd ks (kz z hz) (kc z hz) w hT
end Go.Proofs.YtbhgchhoeokjhabDoor

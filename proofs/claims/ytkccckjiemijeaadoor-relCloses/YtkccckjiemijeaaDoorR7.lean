/- Two slices of the same pairs are the same. -/
import Derived.Test.YtkccckjiemijeaaDoorR6
namespace Go.Proofs.YtkccckjiemijeaaDoor
open Go.RowKit M
set_option linter.unusedSimpArgs false
set_option linter.unusedVariables false

theorem fields29 : (Tryd.prog.fieldsOf 29).toList = [{ name := "A", type := 3, offset := 0, embedded := false, tag := "", pkgPath := "", byteOffset := 0 },
        { name := "B", type := 3, offset := 1, embedded := false, tag := "", pkgPath := "", byteOffset := 8 }] := by kernel_rfl
theorem stood29 : Tryd.prog.stoodInHeld 29 = false := by kernel_rfl
theorem und29 : Tryd.prog.underlying 29 = some (.struct (Tryd.prog.fieldsOf 29)) := by kernel_rfl
theorem eqFields29 (xs ys : Array Value) (d : Nat) : Op.eqFields (d + 1) xs ys [{ name := "A", type := 3, offset := 0, embedded := false, tag := "", pkgPath := "", byteOffset := 0 },
        { name := "B", type := 3, offset := 1, embedded := false, tag := "", pkgPath := "", byteOffset := 8 }] = (do
      let a ← part 3 xs 0
      let b ← part 3 ys 0
      let r ← Op.equalIn (d + 1) 3 a b
      if (!r) = true then pure false else do
        let a ← part 3 xs 1
        let b ← part 3 ys 1
        let r ← Op.equalIn (d + 1) 3 a b
        if (!r) = true then pure false else pure true) := by
  simp [Op.eqFields]
theorem part29a (x y : Int) (w : World) : (part 3 #[.int .i64 x, .int .i64 y] 0).run Tryd.prog w = .ok (.int .i64 x) w := by
  unfold part; simp [Sem.run_bind, Tryd.isAgg3]
theorem part29b (x y : Int) (w : World) : (part 3 #[.int .i64 x, .int .i64 y] 1).run Tryd.prog w = .ok (.int .i64 y) w := by
  unfold part; simp [Sem.run_bind, Tryd.isAgg3]
theorem eqDo29 (c : Array Value) (x y : Int) (w : World) (E : TypeId → Value → Value → Sem Bool) (h0 : ∀ z : Int, (E 3 (.int .i64 z) (.int .i64 z)).run Tryd.prog w = .ok true w)
    (h1 : (part 3 c 0).run Tryd.prog w = .ok (.int .i64 x) w) (h2 : (part 3 c 1).run Tryd.prog w = .ok (.int .i64 y) w) : (do
      let a ← part 3 c 0
      let b ← part 3 c 0
      let r ← E 3 a b
      if (!r) = true then pure false else do
        let a ← part 3 c 1
        let b ← part 3 c 1
        let r ← E 3 a b
        if (!r) = true then pure false else pure true : Sem Bool).run Tryd.prog w = .ok true w := by
  simp only [Sem.run_bind, h0, h1, h2, Result.andThen_ok, Bool.not_true, Bool.false_eq_true, if_false, Sem.run_pure]
theorem equal29' (x y : Int) (w : World) (d : Nat) : (Op.equalIn (d + 2) 29 (.agg #[.int .i64 x, .int .i64 y]) (.agg #[.int .i64 x, .int .i64 y])).run Tryd.prog w = .ok true w :=
  (run_equalIn_struct w (d + 1) 29 _ _ und29 stood29).trans ((congrArg (fun s : Sem Bool => s.run Tryd.prog w) ((congrArg (Op.eqFields (d + 1) _ _) fields29).trans (eqFields29 _ _ d))).trans
    (eqDo29 _ x y w (Op.equalIn (d + 1)) (fun z => by have := run_equalIn_int (P := Tryd.prog) w d 3 .i64 .i64 z z Tryd.underlying3; simpa using this) (part29a x y w) (part29b x y w)))
theorem equal29 (x y : Int) (w : World) : (Op.equalIn 10000 29 (.agg #[.int .i64 x, .int .i64 y]) (.agg #[.int .i64 x, .int .i64 y])).run Tryd.prog w = .ok true w := equal29' x y w 9998
theorem neq29 (x y : Int) (w : World) : (binOp .neq 29 (.agg #[.int .i64 x, .int .i64 y]) (.agg #[.int .i64 x, .int .i64 y])).run Tryd.prog w = .ok (.bool false) w := by
  rw [run_neq_struct, equal29]; rfl

set_option maxRecDepth 100000 in
set_option maxHeartbeats 1000000 in
theorem same_any (a a' : Option Addr) (cap cap' : Nat) (l : List (Int × Int)) (w : World) (h1 : Hid (Prs w a l)) (h2 : Hid (Prs w a' l)) (hl : l.length ≤ 1152921504606846976) :
    Calls Tryd.prog 14 #[.slice a l.length cap, .slice a' l.length cap'] w fun e w' => e = .returned (.bool true) ∧ ∃ m, w' = w.drewN m := by
  have hneq := neq29
  go_enter Tryd.func14, Tryd.ntmps14
  go_wp2
  go_loopw [5] (fun i wr => ∃ k m : Nat, k ≤ l.length ∧ i = .int .i64 k ∧ wr = w.drewN m) (fun i _ => l.length - (intOf i).toNat)
  case atStart => exact ⟨0, 0, by omega, rfl, rfl⟩
  case round =>
    obtain ⟨k, m, hk, rfl, rfl⟩ := hrel
    by_cases hlt : k < l.length
    · obtain ⟨b, off, rfl, hc1, hc2⟩ := h1.out k hlt
      obtain ⟨b', off', rfl, hd1, hd2⟩ := h2.out k hlt
      obtain ⟨x, y, hxy⟩ : ∃ x y, l.getD k (0, 0) = (x, y) := ⟨_, _, rfl⟩
      rw [hxy] at hc1 hc2 hd1 hd2
      dsimp only at hc1 hc2 hd1 hd2
      clear hxy
      go_wp2_with fail
      go_quiet (fail)
      go_wp2
      go_roundw
      case rel => exact ⟨k + 1, m + nq, by omega, by simp, rfl⟩
      case measure => simp [intOf]; omega
    · go_wp2
      go_ret
      exact ⟨rfl, m, rfl⟩
end Go.Proofs.YtkccckjiemijeaaDoor

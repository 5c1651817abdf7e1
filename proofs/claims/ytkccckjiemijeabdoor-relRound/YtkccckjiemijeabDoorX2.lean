/- How many pairs: Count. -/
import Derived.Test.YtkccckjiemijeabDoorX1
namespace Go.Proofs.YtkccckjiemijeabDoor
open Go.RowKit Go.Shelf M
set_option linter.unusedSimpArgs false
set_option linter.unusedVariables false



theorem ones_core (s x1 x2 y0 y1 y2 y3 : Nat) (w : World)
    (a1 : IntKind.u64.wrap (bits BinOp.and IntKind.u64 ((s : Int) / 2) 6148914691236517205 + bits BinOp.and IntKind.u64 (s : Int) 6148914691236517205) = (x1 : Int))
    (a2 : IntKind.u64.wrap (bits BinOp.and IntKind.u64 ((x1 : Int) / 4) 3689348814741910323 + bits BinOp.and IntKind.u64 (x1 : Int) 3689348814741910323) = (x2 : Int))
    (a3 : bits BinOp.and IntKind.u64 (IntKind.u64.wrap ((x2 : Int) / 16 + (x2 : Int))) 1085102592571150095 = (y0 : Int))
    (a4 : IntKind.u64.wrap ((y0 : Int) + (y0 : Int) / 256) = (y1 : Int))
    (a5 : IntKind.u64.wrap ((y1 : Int) + (y1 : Int) / 65536) = (y2 : Int))
    (a6 : IntKind.u64.wrap ((y2 : Int) + (y2 : Int) / 4294967296) = (y3 : Int)) (h3 : y3 < 9223372036854775808) :
    Calls Tryd.prog 44 #[.int .u64 s] w fun e w' => e = .returned (.int .i64 (y3 % 128 : Nat)) ∧ w' = w := by
  go_enter Tryd.func44, Tryd.ntmps44
  go_wp2
  go_ret
  refine ⟨ret_int ?_, rfl⟩
  rw [i64_and127]
  first | omega | (unfold wrap64; omega)

theorem ones_any (s : Nat) (w : World) (hs : s < 18446744073709551616) :
    Calls Tryd.prog 44 #[.int .u64 s] w fun e w' => e = .returned (.int .i64 ((lst s).length : Nat)) ∧ w' = w := by
  have a1 : IntKind.u64.wrap (bits BinOp.and IntKind.u64 ((s : Int) / 2) 6148914691236517205 + bits BinOp.and IntKind.u64 (s : Int) 6148914691236517205) = ((st1 6148914691236517205 s : Nat) : Int) := by
    have l := st1_le 6148914691236517205 s
    have e1 : bits BinOp.and IntKind.u64 ((s : Int) / 2) 6148914691236517205 = ((s / 2 &&& 6148914691236517205 : Nat) : Int) := u64_and_nat (s / 2) 6148914691236517205 (by omega) (by decide)
    have e2 : bits BinOp.and IntKind.u64 (s : Int) 6148914691236517205 = ((s &&& 6148914691236517205 : Nat) : Int) := u64_and_nat s 6148914691236517205 hs (by decide)
    rw [e1, e2, ← Int.natCast_add]
    exact wrap_nat (st1 6148914691236517205 s) (by omega)
  have l1 := st1_le 6148914691236517205 s
  generalize hx1 : st1 6148914691236517205 s = x1 at *
  have a2 : IntKind.u64.wrap (bits BinOp.and IntKind.u64 ((x1 : Int) / 4) 3689348814741910323 + bits BinOp.and IntKind.u64 (x1 : Int) 3689348814741910323) = ((st2 3689348814741910323 x1 : Nat) : Int) := by
    have l := st2_le 3689348814741910323 x1
    have e1 : bits BinOp.and IntKind.u64 ((x1 : Int) / 4) 3689348814741910323 = ((x1 / 4 &&& 3689348814741910323 : Nat) : Int) := u64_and_nat (x1 / 4) 3689348814741910323 (by omega) (by decide)
    have e2 : bits BinOp.and IntKind.u64 (x1 : Int) 3689348814741910323 = ((x1 &&& 3689348814741910323 : Nat) : Int) := u64_and_nat x1 3689348814741910323 (by omega) (by decide)
    rw [e1, e2, ← Int.natCast_add]
    exact wrap_nat (st2 3689348814741910323 x1) (by omega)
  have l2 := st2_le 3689348814741910323 x1
  generalize hx2 : st2 3689348814741910323 x1 = x2 at *
  have a3 : bits BinOp.and IntKind.u64 (IntKind.u64.wrap ((x2 : Int) / 16 + (x2 : Int))) 1085102592571150095 = (((x2 / 16 + x2) &&& 1085102592571150095 : Nat) : Int) := by
    have e0 : IntKind.u64.wrap ((x2 : Int) / 16 + (x2 : Int)) = ((x2 / 16 + x2 : Nat) : Int) := by
      rw [← wrap_nat (x2 / 16 + x2) (by omega)]; congr 1
    rw [e0]
    exact u64_and_nat (x2 / 16 + x2) 1085102592571150095 (by omega) (by decide)
  obtain ⟨key, hb⟩ := ones_eq s ((x2 / 16 + x2) &&& 1085102592571150095) _ _ _ (by rw [hx1, hx2]) rfl rfl rfl
  generalize ((x2 / 16 + x2) &&& 1085102592571150095) = y0 at *
  have a4 : IntKind.u64.wrap ((y0 : Int) + (y0 : Int) / 256) = ((y0 + y0 / 256 : Nat) : Int) := by
    rw [← wrap_nat (y0 + y0 / 256) (by omega)]; congr 1
  generalize (y0 + y0 / 256) = y1 at *
  have a5 : IntKind.u64.wrap ((y1 : Int) + (y1 : Int) / 65536) = ((y1 + y1 / 65536 : Nat) : Int) := by
    rw [← wrap_nat (y1 + y1 / 65536) (by omega)]; congr 1
  generalize (y1 + y1 / 65536) = y2 at *
  have a6 : IntKind.u64.wrap ((y2 : Int) + (y2 : Int) / 4294967296) = ((y2 + y2 / 4294967296 : Nat) : Int) := by
    rw [← wrap_nat (y2 + y2 / 4294967296) (by omega)]; congr 1
  rw [length_lst, ← key]
  exact ones_core s x1 x2 y0 y1 y2 _ w a1 a2 a3 a4 a5 a6 hb


theorem lstTo_right (s N : Nat) (h : ∀ b, b < 64 → s.testBit b = true → b < N) : ∀ m, N ≤ m → m ≤ 64 → lstTo s m = lstTo s N := by
  intro m hm h64
  obtain ⟨d, rfl⟩ : ∃ d, m = N + d := ⟨m - N, by omega⟩
  induction d with
  | zero => rfl
  | succ d ih =>
    rw [← Nat.add_assoc, lstTo_succ, ih (by omega) (by omega)]
    have : s.testBit (N + d) = false := by
      cases hb : s.testBit (N + d) with
      | false => rfl
      | true => have := h (N + d) (by omega) hb; omega
    rw [this]; simp
theorem lst_right (s N : Nat) (hN : N ≤ 64) (h : ∀ b, b < 64 → s.testBit b = true → b < N) : lstTo s N = lst s := by
  rw [← lstTo_64]; exact (lstTo_right s N h 64 hN (Nat.le_refl _)).symm
theorem edgesL_right (f : Nat → Nat) (N : Nat) (h : ∀ a, a < 64 → ∀ b, b < 64 → (f a).testBit b = true → a < N ∧ b < N) : ∀ m, N ≤ m → m ≤ 64 → edgesL m f = edgesL N f := by
  intro m hm h64
  obtain ⟨d, rfl⟩ : ∃ d, m = N + d := ⟨m - N, by omega⟩
  induction d with
  | zero => rfl
  | succ d ih =>
    rw [← Nat.add_assoc, edgesL_succ, ih (by omega) (by omega)]
    have : lst (f (N + d)) = [] := by
      cases hl : lst (f (N + d)) with
      | nil => rfl
      | cons b t =>
        have hm : b ∈ lst (f (N + d)) := by rw [hl]; simp
        rw [mem_lst] at hm
        have := h (N + d) (by omega) b hm.1 hm.2
        omega
    rw [this]; simp
theorem edgesL_le (f : Nat → Nat) : ∀ k, (edgesL k f).length ≤ k * 64
  | 0 => by simp [edgesL]
  | k + 1 => by
    rw [edgesL_succ, List.length_append, List.length_map]
    have := edgesL_le f k
    have := length_lst_le (f k)
    omega

theorem field25 (n : Int) (f : Nat → Nat) (w : World) : (Instr.field 25 (relv n f) 1).run Tryd.prog w = .ok (.agg (rowsL f).toArray) w := by
  have e := ext_rows n f
  unfold relv
  generalize cellsR n f = c at *
  generalize (rowsL f).toArray = r at *
  simp [Instr.field, go_sem, e, asAgg]

set_option maxRecDepth 100000 in
theorem count_any (n : Int) (f : Nat → Nat) (w : World) (hf : Hid (Wf f)) : Calls Tryd.prog 17 #[relv n f] w fun e w' => e = .returned (.int .i64 ((edgesL 64 (nF n f)).length : Nat)) ∧ Below w.heap.size w w' := by
  have cr := fun W => right_any n f W hf
  have hwf : Hid (Wf (nF n f)) := nF_wf n f hf.out
  have hfl := field25 (nN n f) (nF n f)
  generalize nN n f = N at *
  generalize nF n f = g at *
  have hle := edgesL_le g
  go_enter Tryd.func17, Tryd.ntmps17
  go_wp2_with (first
    | (refine wpList_boxR rfl _ rfl rfl ?_; intro W1 b1 F1 r1; have B1 := Fresh.trans (Below.refl _ w) (Nat.le_refl _) F1)
    | (refine wpList_loadR rfl _ rfl rfl r1 ?_)
    | (go_at_call 43; refine (cr _).mono ?_; rintro e w' ⟨rfl, hw'⟩; replace B1 := B1.trans (hw'.mono B1.size)))
  go_loop [3, 9] (fun v i => ∃ k : Nat, k ≤ 64 ∧ i = .int .i64 k ∧ v = .int .i64 ((edgesL k g).length : Nat)) (fun _ i => 64 - (intOf i).toNat)
  case atStart => exact ⟨0, by omega, rfl, rfl⟩
  case round =>
    obtain ⟨k, hk, rfl, rfl⟩ := hrel
    by_cases hlt : k < 64
    · have hrow := index23 g k hlt w'
      have c := ones_any (g k) w' (hwf.out k)
      have h1 := hle k
      have h2 := length_lst_le (g k)
      have HE : Hid ((edgesL (k + 1) g).length = (edgesL k g).length + (lst (g k)).length) := (show (edgesL (k + 1) g).length = _ by rw [edgesL_succ, List.length_append, List.length_map])
      clear hle
      generalize (edgesL k g).length = x at *
      generalize (lst (g k)).length = y at *
      generalize g k = z at *
      go_wp2_with (first
        | (go_at_call 44; refine c.mono ?_; rintro e w2 ⟨rfl, hw2⟩; replace hw2 := hw2.symm; subst hw2))
      go_round
      case rel => exact ⟨k + 1, by omega, by simp, by rw [HE.out]; simp⟩
      case measure => simp [intOf]; omega
    · have : k = 64 := by omega
      subst this
      clear hle
      go_wp2
      go_ret
      exact ⟨rfl, B1⟩
end Go.Proofs.YtkccckjiemijeabDoor

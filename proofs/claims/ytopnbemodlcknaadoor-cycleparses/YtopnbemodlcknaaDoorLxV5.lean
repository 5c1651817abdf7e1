/- The reference's lexer in memory: New, place. -/
import Derived.Test.YtopnbemodlcknaaDoorLxX17
import Derived.Deep.LoopGhost
import Derived.BigQuiet
namespace Go.Proofs.YtopnbemodlcknaaDoor.Lx
open Go.RowKit M
set_option linter.unusedSimpArgs false
set_option linter.unusedVariables false

/-- The reference's lexer's cells: the text, the place, the fault, the place from which lines are counted on, its line and column. -/
def rlexL (s : ByteArray) (p : Nat) (F : Int × Int × Int) (f : Nat) (q : Nat × Nat) : List Value := [.string s, .int .i64 (p : Int), .int .i64 F.1, .int .i64 F.2.1, .int .i64 F.2.2, .int .i64 (f : Int), .int .i64 (q.1 : Int), .int .i64 (q.2 : Int)]
theorem info72 : (Tryd.prog.info? 68).map (·.size) = some 8 := by kernel_rfl
theorem info30 : (Tryd.prog.info? 32).map (·.size) = some 3 := by kernel_rfl

set_option maxRecDepth 100000 in
set_option maxHeartbeats 2000000 in
theorem rnew_any (s : ByteArray) (hs : s.size < 4611686018427387904) (w : World) : Calls Tryd.prog 16 #[.string s] w fun e w' => (∃ b, e = .returned (.pointer (some ⟨b, 0, none⟩)) ∧ w.heap.size ≤ b ∧ IsS w' b 68 (rlexL s 0 (if 1048576 < s.size then (-1, 0, 1) else (0, 0, 0)) 0 (1, 1))) ∧ Below w.heap.size w w' := by
  by_cases hb : 1048576 < s.size
  · have hi : (1048576 : Int) < s.size := by omega
    rw [if_pos hb]
    go_enter Tryd.func16, Tryd.ntmps16
    go_wp2_with (first
      | (refine wpList_boxS rfl 68 _ rfl (rlexL s 0 (0, 0, 0) 0 (1, 1)) rfl ?_; intro W2 b2 F2 N2; have hb2 : w.heap.size ≤ b2 := Nat.le_of_eq F2.at'.symm; have B2 := F2.trans (Below.refl _ _) (Nat.le_refl _); clear F2)
      | (refine wpList_storeS rfl 32 _ _ rfl rfl [.int .i64 (-1), .int .i64 0, .int .i64 1] rfl N2 (by simp [rlexL]) info30 (by simp [Value.oneCell']) ?_; intro W3 U3 N3x; have N3 : IsS W3 b2 68 (rlexL s 0 (-1, 0, 1) 0 (1, 1)) := N3x; have B3 := U3.trans B2 hb2; clear U3 N2 B2 N3x))
    go_ret
    exact ⟨⟨b2, rfl, hb2, N3⟩, B3⟩
  · have hi : ¬ (1048576 : Int) < s.size := by omega
    rw [if_neg hb]
    go_enter Tryd.func16, Tryd.ntmps16
    go_wp2_with (first
      | (refine wpList_boxS rfl 68 _ rfl (rlexL s 0 (0, 0, 0) 0 (1, 1)) rfl ?_; intro W2 b2 F2 N2; have hb2 : w.heap.size ≤ b2 := Nat.le_of_eq F2.at'.symm; have B2 := F2.trans (Below.refl _ _) (Nat.le_refl _); clear F2))
    go_ret
    exact ⟨⟨b2, rfl, hb2, N2⟩, B2⟩

theorem spot_snoc (s : ByteArray) (q : Nat × Nat) (f g : Nat) (hfg : f ≤ g) (hg : g < s.size) : spotF q ((s.data.toList.take (g + 1)).drop f) = stepP (spotF q ((s.data.toList.take g).drop f)) s[g] := by
  have hl : g < s.data.toList.length := by simpa using hg
  rw [List.take_succ_eq_append_getElem hl, List.drop_append_of_le_length (by rw [List.length_take]; omega), spot_app, spot_cons, spot_nil]
  rfl

set_option maxRecDepth 100000 in
set_option maxHeartbeats 4000000 in
theorem rplace_any (s : ByteArray) (hs : s.size ≤ 1048576) (b p f m x y : Nat) (F : Int × Int × Int) (hf : f ≤ m) (hm : m ≤ s.size) (hx : x < 2305843009213693952) (hy : y < 2305843009213693952) (w : World) (hL : IsS w b 68 (rlexL s p F f (x, y))) :
    Calls Tryd.prog 24 #[.pointer (some ⟨b, 0, none⟩), .int .i64 (m : Int)] w fun en w' => (en = .returned (.tuple #[.int .i64 ((spotF (x, y) ((s.data.toList.take m).drop f)).1 : Nat), .int .i64 ((spotF (x, y) ((s.data.toList.take m).drop f)).2 : Nat)]) ∧ IsS w' b 68 (rlexL s p F m (spotF (x, y) ((s.data.toList.take m).drop f)))) ∧ Turn w w' b := by
  obtain ⟨Z, hZ⟩ : ∃ Z, spotF (x, y) ((s.data.toList.take m).drop f) = Z := ⟨_, rfl⟩
  rw [hZ]
  have HZ : Hid (spotF (x, y) ((s.data.toList.take m).drop f) = Z) := hZ
  have hff : Hid (spotF (x, y) ((s.data.toList.take f).drop f) = (x, y)) := (by show _ = _; rw [List.drop_eq_nil_of_le (by rw [List.length_take]; omega)]; rfl)
  have hbd : Hid (∀ g, (spotF (x, y) ((s.data.toList.take g).drop f)).1 < 2305843009213693952 + 1048577 ∧ (spotF (x, y) ((s.data.toList.take g).drop f)).2 < 2305843009213693952 + 1048578) := fun g => by
    have := spot_bd ((s.data.toList.take g).drop f) (x, y)
    rw [List.length_drop, List.length_take, ← sizeL] at this
    dsimp only at this
    omega
  clear hZ
  have hF : Hid (F = F) := rfl
  obtain ⟨F1, F2, F3⟩ := F
  go_enter Tryd.func24, Tryd.ntmps24
  go_wp2_with fail
  go_loopg [6] (m - f) (fun g _ wr => ∃ k u v : Nat, g + k = m ∧ f ≤ k ∧ Hid (spotF (x, y) ((s.data.toList.take k).drop f) = (u, v)) ∧ IsS wr b 68 (rlexL s p (F1, F2, F3) k (u, v)) ∧ Turn w wr b)
  case atStart => exact ⟨f, x, y, by omega, by omega, hff, hL, Turn.of_below (Below.refl _ _) b⟩
  case round =>
    obtain ⟨k, u, v, hk, hfk, HS, K, T⟩ := hrel
    clear hff hL
    have hb1 := (hbd.out k).1
    have hb2 := (hbd.out k).2
    rw [HS.out] at hb1 hb2
    dsimp only at hb1 hb2
    have c5 : wr.cell? ⟨b, 5, none⟩ = some (.int .i64 (k : Int)) := K.cell 5
    by_cases hlt : k < m
    · have hi : (k : Int) < m := by omega
      have hki : (k : Int) < s.size := by omega
      have hks : k < s.size := by omega
      have c7 : wr.cell? ⟨b, 7, none⟩ = some (.int .i64 (v : Int)) := K.cell 7
      have hst := spot_snoc s (x, y) f k hfk hks
      rw [HS.out] at hst
      by_cases h10 : s[k].toNat = 10
      · have f10 : ((s[k].toNat : Int) == 10) = true := (by simp; omega)
        have HN : Hid (spotF (x, y) ((s.data.toList.take (k + 1)).drop f) = (u + 1, 1)) := (by show _ = _; rw [hst]; simp [stepP, h10])
        clear hst h10 HS
        go_wp2_with (first
          | (refine wpList_store1 rfl 3 _ _ rfl rfl (.int .i64 ((v : Int) + 1)) rfl K (by simp [rlexL]) info3 rfl ?_; intro W1 U1 K1x; have K1 : IsS W1 b 68 (rlexL s p (F1, F2, F3) k (u, v + 1)) := (by have := K1x; simpa [rlexL] using this); have T1 := T.trans (Turn.of_upd U1); clear U1 K1x K T c5 c7; have d0 : W1.cell? ⟨b, 0, none⟩ = some (.string s) := K1.cell 0; have d5 : W1.cell? ⟨b, 5, none⟩ = some (.int .i64 (k : Int)) := K1.cell 5))
        go_quiet (fail)
        have K2 : IsS (W1.drewN nq) b 68 (rlexL s p (F1, F2, F3) k (u, v + 1)) := K1
        have T2 := T1.drewN nq
        clear K1 T1 d0 d5
        generalize W1.drewN nq = W2 at *
        have e5 : W2.cell? ⟨b, 5, none⟩ = some (.int .i64 (k : Int)) := K2.cell 5
        have e6 : W2.cell? ⟨b, 6, none⟩ = some (.int .i64 (u : Int)) := K2.cell 6
        go_wp2_with (first
          | (refine wpList_store1 rfl 3 _ _ rfl rfl (.int .i64 ((u : Int) + 1)) rfl K2 (by simp [rlexL]) info3 rfl ?_; intro W3 U3 K3x; have K3 : IsS W3 b 68 (rlexL s p (F1, F2, F3) k (u + 1, v + 1)) := (by have := K3x; simpa [rlexL] using this); have T3 := T2.trans (Turn.of_upd U3); clear U3 K3x K2 T2 e5 e6)
          | (refine wpList_store1 rfl 3 _ _ rfl rfl (.int .i64 1) rfl K3 (by simp [rlexL]) info3 rfl ?_; intro W4 U4 K4x; have K4 : IsS W4 b 68 (rlexL s p (F1, F2, F3) k (u + 1, 1)) := (by have := K4x; simpa [rlexL] using this); have T4 := T3.trans (Turn.of_upd U4); clear U4 K4x K3 T3; have g5 : W4.cell? ⟨b, 5, none⟩ = some (.int .i64 (k : Int)) := K4.cell 5)
          | (refine wpList_store1 rfl 3 _ _ rfl rfl (.int .i64 ((k : Int) + 1)) rfl K4 (by simp [rlexL]) info3 rfl ?_; intro W5 U5 K5x; have K5 : IsS W5 b 68 (rlexL s p (F1, F2, F3) (k + 1) (u + 1, 1)) := (by have := K5x; simpa [rlexL] using this); have T5 := T4.trans (Turn.of_upd U5); clear U5 K5x K4 T4 g5))
        go_roundg (m - (k + 1))
        case measure => omega
        case rel => exact ⟨k + 1, u + 1, 1, by omega, by omega, HN, K5, T5⟩
      · have f10 : ((s[k].toNat : Int) == 10) = false := (by simp; omega)
        have HN : Hid (spotF (x, y) ((s.data.toList.take (k + 1)).drop f) = (u, v + 1)) := (by show _ = _; rw [hst]; simp [stepP, h10])
        clear hst h10 HS
        go_wp2_with (first
          | (refine wpList_store1 rfl 3 _ _ rfl rfl (.int .i64 ((v : Int) + 1)) rfl K (by simp [rlexL]) info3 rfl ?_; intro W1 U1 K1x; have K1 : IsS W1 b 68 (rlexL s p (F1, F2, F3) k (u, v + 1)) := (by have := K1x; simpa [rlexL] using this); have T1 := T.trans (Turn.of_upd U1); clear U1 K1x K T c5 c7; have d0 : W1.cell? ⟨b, 0, none⟩ = some (.string s) := K1.cell 0; have d5 : W1.cell? ⟨b, 5, none⟩ = some (.int .i64 (k : Int)) := K1.cell 5))
        go_quiet (fail)
        have K2 : IsS (W1.drewN nq) b 68 (rlexL s p (F1, F2, F3) k (u, v + 1)) := K1
        have T2 := T1.drewN nq
        clear K1 T1 d0 d5
        generalize W1.drewN nq = W2 at *
        have e5 : W2.cell? ⟨b, 5, none⟩ = some (.int .i64 (k : Int)) := K2.cell 5
        go_wp2_with (first
          | (refine wpList_store1 rfl 3 _ _ rfl rfl (.int .i64 ((k : Int) + 1)) rfl K2 (by simp [rlexL]) info3 rfl ?_; intro W5 U5 K5x; have K5 : IsS W5 b 68 (rlexL s p (F1, F2, F3) (k + 1) (u, v + 1)) := (by have := K5x; simpa [rlexL] using this); have T5 := T2.trans (Turn.of_upd U5); clear U5 K5x K2 T2 e5))
        go_roundg (m - (k + 1))
        case measure => omega
        case rel => exact ⟨k + 1, u, v + 1, by omega, by omega, HN, K5, T5⟩
    · obtain rfl : k = m := by omega
      have hi : ¬ (k : Int) < k := by omega
      have HZ' : Hid (Z = (u, v)) := (by show _ = _; rw [← HZ.out]; exact HS.out)
      have c6 : wr.cell? ⟨b, 6, none⟩ = some (.int .i64 (u : Int)) := K.cell 6
      have c7 : wr.cell? ⟨b, 7, none⟩ = some (.int .i64 (v : Int)) := K.cell 7
      clear HS HZ
      go_wp2_with fail
      go_quiet (fail)
      go_wp2_with fail
      go_ret2
      refine ⟨⟨?_, ?_⟩, T.drewN _⟩
      · rw [HZ'.out]; rfl
      · rw [HZ'.out]; exact K
end Go.Proofs.YtopnbemodlcknaaDoor.Lx

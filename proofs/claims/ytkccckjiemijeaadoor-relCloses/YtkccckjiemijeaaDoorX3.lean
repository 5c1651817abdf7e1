/- The pairs of a relation, as the reference lists them. -/
import Derived.Test.YtkccckjiemijeaaDoorX2
import Derived.Test.YtkccckjiemijeaaDoorL0
namespace Go.Proofs.YtkccckjiemijeaaDoor
open Go.RowKit Go.Shelf M
set_option linter.unusedSimpArgs false
set_option linter.unusedVariables false

theorem info29' : (Tryd.prog.info? 29).map (fun i => (i.zero, i.size, i.bytes)) = some (some (.agg #[.int .i64 0, .int .i64 0]), 2, 16) := by kernel_rfl
theorem cell_pair_new (w : World) (x y : Value) (t : TypeId) : ∀ j u, [x, y][j]? = some u → (w.alloc (.cells #[x, y] t)).cell? ((⟨w.heap.size, 0, none⟩ : Addr).add j) = some u := by
  intro j u hj
  rw [Addr.add_mid, Nat.zero_add, cell_of_row _ _ j #[x, y] t (0, 0) (heap_alloc_last w _)]
  simpa using hj
def toI (l : List (Nat × Nat)) : List (Int × Int) := l.map fun e => ((e.1 : Int), (e.2 : Int))
theorem toI_len (l : List (Nat × Nat)) : (toI l).length = l.length := by simp [toI]
theorem cellsE_snoc (l : List (Nat × Nat)) (a b : Nat) : cellsE (toI (l ++ [(a, b)])) = cellsE (toI l) ++ [.int .i64 (a : Nat), .int .i64 (b : Nat)] := by simp [cellsE, toI]

theorem own_below {W W' : World} {base e s n : Nat} {v : Value} {xs : List Value} (h : W.ownsRow base e s v n xs) (hb : Below W.heap.size W W') : W'.ownsRow base e s v n xs := by
  refine ⟨h.1, ?_⟩
  rcases h.2 with hn | ⟨g, cap, cur, rfl, hg, hh, rest⟩
  · exact Or.inl hn
  · exact Or.inr ⟨g, cap, cur, rfl, hg, (hb.block g (Array.getElem?_eq_some_iff.1 hh).1).trans hh, rest⟩
theorem own_base {W : World} {base base' e s n : Nat} {v : Value} {xs : List Value} (h : W.ownsRow base e s v n xs) (hb : base' ≤ base) : W.ownsRow base' e s v n xs := by
  refine ⟨h.1, ?_⟩
  rcases h.2 with hn | ⟨g, cap, cur, rfl, hg, hh, rest⟩
  · exact Or.inl hn
  · exact Or.inr ⟨g, cap, cur, rfl, Nat.le_trans hb hg, hh, rest⟩

/-- The pairs of the rows ahead of k, and those of row k ahead of m. -/
def upE (f : Nat → Nat) (k m : Nat) : List (Nat × Nat) := edgesL k f ++ (lstTo (f k) m).map fun b => (k, b)
theorem upE_yes (f : Nat → Nat) (k m : Nat) (h : (f k).testBit m = true) : upE f k (m + 1) = upE f k m ++ [(k, m)] := by
  unfold upE; rw [lstTo_succ, h]; simp
theorem upE_no (f : Nat → Nat) (k m : Nat) (h : (f k).testBit m = false) : upE f k (m + 1) = upE f k m := by
  unfold upE; rw [lstTo_succ, h]; simp
theorem upE_zero (f : Nat → Nat) (k : Nat) : upE f k 0 = edgesL k f := by simp [upE, lstTo]
theorem upE_le (f : Nat → Nat) (k m : Nat) (hk : k ≤ 64) (hm : m ≤ 64) : (upE f k m).length ≤ 4160 := by
  unfold upE
  rw [List.length_append, List.length_map]
  have := edgesL_le f k
  have := lstTo_le (f k) m
  omega

set_option maxRecDepth 100000 in
set_option maxHeartbeats 2000000 in
theorem redges_any (n : Int) (f : Nat → Nat) (w : World) (hf : Hid (Wf f)) : Calls Tryd.prog 20 #[relv n f] w fun e w' => ∃ v, e = .returned v ∧ w'.ownsRow w.heap.size 29 2 v (edgesL 64 (nF n f)).length (cellsE (toI (edgesL 64 (nF n f)))) ∧ Below w.heap.size w w' := by
  obtain ⟨i0, hi, hz0, hz1, hz2⟩ := info_parts info29'
  have cr := fun W => rright_any n f W hf
  obtain ⟨N, hN, hN64, hrt⟩ := n_right n f hf.out
  have hwf : Hid (Wf (nF n f)) := nF_wf n f hf.out
  rw [hN] at cr
  generalize nF n f = g at *
  clear hN
  have HR : Hid (∀ a, a < 64 → ∀ b, b < 64 → (g a).testBit b = true → a < N ∧ b < N) := hrt
  have HE : Hid (edgesL 64 g = edgesL N g) := edgesL_right g N hrt 64 hN64 (Nat.le_refl _)
  have HL : Hid (∀ k, k < N → upE g k N = edgesL (k + 1) g) := fun k hk => by
    unfold upE; rw [edgesL_succ, lst_right (g k) N hN64 (fun b hb ht => (hrt k (by omega) b hb ht).2)]
  have HU : Hid (∀ k m, k ≤ 64 → m ≤ 64 → (upE g k m).length ≤ 4160) := fun k m => upE_le g k m
  clear hrt
  go_enter Tryd.func20, Tryd.ntmps20
  go_wp2_with (first
    | (refine wpList_boxR rfl _ rfl rfl ?_; intro W1 b1 F1 r1; have B1 := Fresh.trans (Below.refl _ w) (Nat.le_refl _) F1)
    | (refine wpList_loadR rfl _ rfl rfl r1 ?_)
    | (go_at_call 24; refine (cr _).mono ?_; rintro e w' ⟨rfl, hw'⟩; replace r1 := r1.grown hw'; replace B1 := B1.trans (hw'.mono B1.size))
    | (refine wpList_storeR rfl _ _ rfl rfl rfl r1 ?_; intro W3 U3 r3; replace B1 := U3.trans B1 (by rw [F1.at']; exact Nat.le_refl _)))
  have hb1 : w.heap.size ≤ b1 := by rw [F1.at']; exact Nat.le_refl _
  obtain ⟨B, hBdef⟩ : ∃ B, B = b1 + 1 := ⟨_, rfl⟩
  have hBb : b1 < B := by omega
  have hBl : B ≤ W3.heap.size := by have := r3.lt; omega
  clear F1 U3 r1 hBdef
  go_loopw [3, 4] (fun v i wr => ∃ k : Nat, k ≤ N ∧ i = .int .i64 k ∧ wr.ownsRow B 29 2 v (upE g k 0).length (cellsE (toI (upE g k 0))) ∧ IsR wr b1 N g ∧ Below w.heap.size w wr ∧ B ≤ wr.heap.size) (fun _ i _ => N - (intOf i).toNat)
  case atStart => exact ⟨0, by omega, rfl, ⟨rfl, .inl ⟨rfl, rfl⟩⟩, r3, B1, hBl⟩
  case round =>
    obtain ⟨k, hk, rfl, own, q1, BB, BL⟩ := hrel
    by_cases hlt : k < N
    · have hki : (k : Int) < (N : Int) := by omega
      have hn := q1.n
      go_wp2
      go_loopw [3, 5] (fun v i wr => ∃ m : Nat, m ≤ N ∧ i = .int .i64 m ∧ wr.ownsRow B 29 2 v (upE g k m).length (cellsE (toI (upE g k m))) ∧ IsR wr b1 N g ∧ Below w.heap.size w wr ∧ B ≤ wr.heap.size) (fun _ i _ => N - (intOf i).toNat)
      case atStart => exact ⟨0, by omega, rfl, own, q1, BB, BL⟩
      case round =>
        clear own q1 BB BL hn
        obtain ⟨m, hm, rfl, own, q1, BB, BL⟩ := hrel
        by_cases hml : m < N
        · have hmi : (m : Int) < (N : Int) := by omega
          have hn := q1.n
          have hu := HU.out k m (by omega) (by omega)
          have ch := fun W => rhas_any N hN64 g (k : Int) (m : Int) W hwf
          have hv : hasE N g (k : Int) (m : Int) = (g k).testBit m := by simp [hasE, hlt, hml]
          rw [hv] at ch
          clear hv
          cases hb : (g k).testBit m
          · rw [hb] at ch
            have HQ : Hid (upE g k (m + 1) = upE g k m) := upE_no g k m hb
            clear hb
            go_wp2_with (first
              | (refine wpList_loadR rfl _ rfl rfl q1 ?_)
              | (go_at_call 23; refine (ch _).mono ?_; rintro e w2 ⟨rfl, hb⟩; replace own := own_below own hb; replace q1 := q1.grown hb; replace BB := BB.trans (hb.mono BB.size); replace BL := Nat.le_trans BL hb.size; clear hb))
            go_roundw
            case rel => exact ⟨m + 1, by omega, by simp, by rw [HQ.out]; exact own, q1, BB, BL⟩
            case measure => simp [intOf]; omega
          · rw [hb] at ch
            have HQ : Hid (upE g k (m + 1) = upE g k m ++ [(k, m)]) := upE_yes g k m hb
            clear hb
            go_wp2_with (first
              | (refine wpList_loadR rfl _ rfl rfl q1 ?_)
              | (go_at_call 23; refine (ch _).mono ?_; rintro e w2 ⟨rfl, hb⟩; replace own := own_below own hb; replace q1 := q1.grown hb; replace BB := BB.trans (hb.mono BB.size); replace BL := Nat.le_trans BL hb.size; clear hb)
              | (at_builtin; refine wpList_append_own _ rfl (.tmp 24) (.tmp 28) 26 rfl B 29 i0 (.agg #[.int .i64 0, .int .i64 0]) 2 16 Tryd.underlying26 hi hz0 hz1 hz2 rfl (by decide) _ (upE g k m).length (cellsE (toI (upE g k m))) rfl (own.alloc _) ⟨w2.heap.size, 0, none⟩ 1 1 [.int .i64 (k : Nat), .int .i64 (m : Nat)] rfl rfl (cell_pair_new _ _ _ _) (by simp [Value.oneCell']) (by unfold maxLen; omega) (by omega) (by simp; omega) ?_; intro v' w3 own' grow' hif'; clear hif'; have q1' : IsR w3 b1 N g := (grow'.block b1 (by simp; have := q1.lt; omega) (fun e => by have := ((own.alloc (.cells #[.int .i64 (k : Nat), .int .i64 (m : Nat)] 29)).lt b1 e.symm).1; omega)).trans (q1.alloc _); have BB' := (BB.alloc BB.size (.cells #[.int .i64 (k : Nat), .int .i64 (m : Nat)] 29)).grown grow' (by have := BB.size; simp; omega) (fun j e => by have := ((own.alloc (.cells #[.int .i64 (k : Nat), .int .i64 (m : Nat)] 29)).lt j e).1; omega); have BL' : B ≤ w3.heap.size := Nat.le_trans BL (Nat.le_trans (by simp) grow'.size); clear own q1 BB BL grow'))
            go_roundw
            case rel => exact ⟨m + 1, by omega, by simp, by rw [HQ.out, cellsE_snoc, List.length_append]; exact own', q1', BB', BL'⟩
            case measure => simp [intOf]; omega
        · have : m = N := by omega
          subst this
          have hmi : ¬ (m : Int) < (m : Int) := by omega
          have hn := q1.n
          have HQ : Hid (upE g k m = upE g (k + 1) 0) := (show upE g k m = upE g (k + 1) 0 by rw [HL.out k hlt, upE_zero])
          go_wp2
          go_roundw
          case rel => exact ⟨k + 1, by omega, by simp, by rw [← HQ.out]; exact own, q1, BB, BL⟩
          case measure => simp [intOf]; omega
    · have : k = N := by omega
      subst this
      have hki : ¬ (k : Int) < (k : Int) := by omega
      have hn := q1.n
      rw [upE_zero] at own
      go_wp2
      go_ret
      exact ⟨_, rfl, by rw [HE.out]; exact own_base own (by omega), BB⟩
end Go.Proofs.YtkccckjiemijeaaDoor

/- Several texts in one: ZK, L1. -/
import Derived.Test.YtjnbhcakfenbhaaGreatDoorQbb
import Derived.Test.YtjnbhcakfenbhaaGreatDoorQaj
import Derived.Test.YtjnbhcakfenbhaaGreatDoorQak
/- No reader of conditions goes beyond a token of the kind 0. -/
namespace Go.Proofs.YtjnbhcakfenbhaaGreatDoor
open Go.RowKit M
set_option linter.unusedSimpArgs false
set_option linter.unusedVariables false

theorem fail_k (σ : CS) (g : GT) (e : Int) : (failC σ g e).k = σ.k := by unfold failC; split <;> rfl
theorem node_k (gs : List GT) (σ : CS) (nd : Nd) : (nodeC gs σ nd).k = σ.k := by
  unfold nodeC; split
  · rfl
  · split
    · exact fail_k _ _ _
    · rfl
theorem out_k (σ : CS) : (outC σ).k = σ.k := rfl
theorem isT_kind {gs : List GT} {σ : CS} {kd : Int} {x : List UInt8} (h : isT gs σ 0 kd x = true) : (gAt gs σ.k).kind = kd := by
  unfold isT at h
  simp only [Bool.and_eq_true, beq_iff_eq, Nat.add_zero] at h
  exact h.2.2.1
theorem take_un {gs : List GT} {j : Nat} (hj : (gAt gs j).kind = 0) {σ : CS} (h : σ.k ≤ j) (hne : (gAt gs σ.k).kind ≠ 0) : (takeC gs σ).k ≤ j := by
  unfold takeC; split
  · exact h
  · show σ.k + 1 ≤ j
    rcases Nat.lt_or_ge σ.k j with h' | h'
    · exact h'
    · have : σ.k = j := by omega
      rw [this] at hne; exact absurd hj hne
theorem sign_un {gs : List GT} {j : Nat} (hj : (gAt gs j).kind = 0) {σ : CS} (h : σ.k ≤ j) (x : List UInt8) : (signC gs σ x).k ≤ j := by
  unfold signC; split
  · rename_i hB; exact take_un hj h (by rw [isT_kind hB]; decide)
  · unfold synC; rw [fail_k]; exact h
theorem name_un {gs : List GT} {j : Nat} (hj : (gAt gs j).kind = 0) {σ : CS} (h : σ.k ≤ j) : (nameC gs σ).k ≤ j := by
  unfold nameC; split
  · rename_i hB
    unfold nameQ at hB
    simp only [Bool.and_eq_true, beq_iff_eq] at hB
    exact take_un hj h (by rw [hB.2.2.1]; decide)
  · unfold synC; rw [fail_k]; exact h
theorem nbr_un {gs : List GT} {j : Nat} (hj : (gAt gs j).kind = 0) {σ : CS} (h : σ.k ≤ j) : (nbrC gs σ).k ≤ j := by
  unfold nbrC; split
  · rename_i hB
    unfold nbrQ at hB
    simp only [Bool.and_eq_true, beq_iff_eq] at hB
    exact take_un hj h (by rw [hB.2.2]; decide)
  · unfold synC; rw [fail_k]; exact h
theorem open_un {gs : List GT} {j : Nat} (hj : (gAt gs j).kind = 0) {σ : CS} (h : σ.k ≤ j) (hne : (gAt gs σ.k).kind ≠ 0) : (openC gs σ).k ≤ j := by
  unfold openC; split
  · rw [fail_k]; exact h
  · exact take_un (σ := ⟨σ.k, σ.deep + 1, σ.nodes, σ.F⟩) hj h hne
theorem ref_un {gs : List GT} {j : Nat} (hj : (gAt gs j).kind = 0) {σ : CS} (h : σ.k ≤ j) : (refC gs σ).k ≤ j := by
  unfold refC; split
  · rename_i hB; exact sign_un hj (name_un hj (take_un hj h (by rw [isT_kind hB]; decide))) _
  · split
    · rename_i n hT
      unfold thrQ at hT
      split at hT
      · rename_i hk; exact name_un hj (sign_un hj (take_un hj h (by rw [hk.2]; decide)) _)
      · cases hT
    · exact name_un hj h
theorem eq_un {gs : List GT} {j : Nat} (hj : (gAt gs j).kind = 0) {σ : CS} (h : σ.k ≤ j) : (eqC gs σ).k ≤ j := by
  unfold eqC eqS; rw [node_k]; exact nbr_un hj (sign_un hj (ref_un hj h) _)
theorem go_un {gs : List GT} {j : Nat} (hj : (gAt gs j).kind = 0) : ∀ (f : Nat) (m : Option Int) (lvl : Nat) (σ : CS), σ.k ≤ j → (goC gs f m lvl σ).2.k ≤ j
  | 0, _, _, σ, h => h
  | f + 1, some a, lvl, σ, h => by
    unfold goC
    split
    · rename_i hB
      exact go_un hj f _ lvl _ (by rw [node_k]; exact go_un hj f none lvl _ (take_un hj h (by rw [isT_kind hB]; decide)))
    · exact h
  | f + 1, none, lvl + 1, σ, h => by
    unfold goC
    exact go_un hj f _ lvl _ (go_un hj f none lvl σ h)
  | f + 1, none, 0, σ, h => by
    unfold goC
    split
    · exact h
    · split
      · rename_i hB
        show (nodeC gs (outC (goC gs f none 0 (openC gs σ)).2) _).k ≤ j
        rw [node_k, out_k]
        exact go_un hj f none 0 _ (open_un hj h (by rw [isT_kind hB]; decide))
      · split
        · rename_i hB
          show (outC (signC gs (goC gs f none 2 (openC gs σ)).2 [41])).k ≤ j
          rw [out_k]
          exact sign_un hj (go_un hj f none 2 _ (open_un hj h (by rw [isT_kind hB]; decide))) _
        · split
          · rename_i hB
            show (nodeC gs (takeC gs σ) _).k ≤ j
            rw [node_k]
            simp only [Bool.and_eq_true] at hB
            exact take_un hj h (by rw [isT_kind hB.1]; decide)
          · exact eq_un hj h
theorem takeR_un {gs : List GT} {j k : Nat} (hj : (gAt gs j).kind = 0) (h : k ≤ j) : (takeR gs k).k ≤ j := go_un hj _ none 2 ⟨k, 0, [], none⟩ h
end Go.Proofs.YtjnbhcakfenbhaaGreatDoor
/- sameCond of the same nodes; num. -/
namespace Go.Proofs.YtjnbhcakfenbhaaGreatDoor
open Go.RowKit M
set_option linter.unusedSimpArgs false
set_option linter.unusedVariables false

set_option maxRecDepth 100000 in
theorem num_any (k : Int) (w : World) : Calls Tryz.prog 12 #[.int .i64 k] w fun e w' => e = .returned (.int .i64 k) ∧ w' = w := by
  go_enter Tryz.func12, Tryz.ntmps12
  go_wp2_with fail
  go_ret
  exact ⟨rfl, rfl⟩

set_option maxRecDepth 100000 in
set_option maxHeartbeats 2000000 in
theorem same_any (a1 a2 : Option Addr) (c1 c2 : Nat) (ns : List Nd) (hn : ns.length ≤ 16777216) (w : World) (h1 : Nds w a1 ns) (h2 : Nds w a2 ns) :
    Calls Tryz.prog 7 #[.slice a1 ns.length c1, .slice a2 ns.length c2] w fun e w' => e = .returned (.bool true) ∧ Below w.heap.size w w' := by
  have H1 : Hid (Nds w a1 ns) := h1
  have H2 : Hid (Nds w a2 ns) := h2
  clear h1 h2
  go_enter Tryz.func7, Tryz.ntmps7
  go_wp2_with fail
  go_loopw [5] (fun i wr => ∃ j : Nat, j ≤ ns.length ∧ i = .int .i64 (j : Int) ∧ Hid (Below w.heap.size w wr)) (fun i _ => ns.length - (intOf i).toNat)
  case atStart => exact ⟨0, by omega, rfl, Below.refl _ _⟩
  case round =>
    obtain ⟨j, hj, rfl, HB⟩ := hrel
    by_cases hlt : j < ns.length
    · have hi : (j : Int) < ns.length := by omega
      obtain ⟨nd, hg⟩ : ∃ nd, ns[j]? = some nd := ⟨_, List.getElem?_eq_getElem hlt⟩
      obtain ⟨b, o, rfl, hb, hr⟩ := H1.out.below HB.out j nd hg
      obtain ⟨b', o', rfl, hb', hr'⟩ := H2.out.below HB.out j nd hg
      obtain ⟨op, fa, fb, th, nm, val⟩ := nd
      clear hg
      go_wp2_with fail
      refine grow_allW (by kernel_rfl) (by kernel_rfl) ?_
      refine WG.put rfl (v := .slice (some ⟨b, o, none⟩) ns.length c1) (fun w => by first | rfl | (go_simp; done) | (simp [go_sem]; done)) ?_
      simp only [Act.put, List.setIfInBounds_toArray, List.set_cons_succ, List.set_cons_zero]
      refine WG.put rfl (v := .int .i64 (j : Int)) (fun w => by first | rfl | (go_simp; done) | (simp [go_sem]; done)) ?_
      simp only [Act.put, List.setIfInBounds_toArray, List.set_cons_succ, List.set_cons_zero]
      refine WG.put rfl (v := .pointer (some ⟨b, o + j * 6, none⟩)) (fun w => by first | rfl | (go_simp; done) | (simp [go_sem]; done)) ?_
      simp only [Act.put, List.setIfInBounds_toArray, List.set_cons_succ, List.set_cons_zero]
      refine WG.range rfl 62 _ rfl rfl (ndL ⟨op, fa, fb, th, nm, val⟩) hb hr _ Tryz.underlying62 rfl infoNd ?_
      simp only [Act.put, List.setIfInBounds_toArray, List.set_cons_succ, List.set_cons_zero]
      refine WG.put rfl (v := .slice (some ⟨b', o', none⟩) ns.length c2) (fun w => by first | rfl | (go_simp; done) | (simp [go_sem]; done)) ?_
      simp only [Act.put, List.setIfInBounds_toArray, List.set_cons_succ, List.set_cons_zero]
      refine WG.put rfl (v := .int .i64 (j : Int)) (fun w => by first | rfl | (go_simp; done) | (simp [go_sem]; done)) ?_
      simp only [Act.put, List.setIfInBounds_toArray, List.set_cons_succ, List.set_cons_zero]
      refine WG.put rfl (v := .pointer (some ⟨b', o' + j * 6, none⟩)) (fun w => by first | rfl | (go_simp; done) | (simp [go_sem]; done)) ?_
      simp only [Act.put, List.setIfInBounds_toArray, List.set_cons_succ, List.set_cons_zero]
      refine WG.range rfl 62 _ rfl rfl (ndL ⟨op, fa, fb, th, nm, val⟩) hb' hr' _ Tryz.underlying62 rfl infoNd ?_
      simp only [Act.put, List.setIfInBounds_toArray, List.set_cons_succ, List.set_cons_zero]
      refine WG.put rfl (v := .bool false) (fun w => by first | rfl | (go_simp; done) | (simp [go_sem, ndL]; done)) ?_
      simp only [Act.put, List.setIfInBounds_toArray, List.set_cons_succ, List.set_cons_zero]
      refine WG.nil ?_
      intro W3 B3
      have B4 : Hid (Below w.heap.size w W3) := Below.then HB.out B3
      go_wp2_with fail
      go_roundw
      case rel => exact ⟨j + 1, by omega, by go_num, B4⟩
      case measure => simp [intOf]; omega
    · have hi : ¬ (j : Int) < ns.length := by omega
      go_wp2_with fail
      go_ret
      exact ⟨rfl, HB.out⟩
end Go.Proofs.YtjnbhcakfenbhaaGreatDoor

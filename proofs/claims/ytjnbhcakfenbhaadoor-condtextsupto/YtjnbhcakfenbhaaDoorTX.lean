/- refText, joint; what Text's closures capture. -/
import Derived.Test.YtjnbhcakfenbhaaDoorBD
import Derived.Test.YtjnbhcakfenbhaaDoorC5
namespace Go.Proofs.YtjnbhcakfenbhaaDoor
open Go.RowKit Go.Shelf M
set_option linter.unusedSimpArgs false
set_option linter.unusedVariables false

theorem addS (W : World) (a b : List UInt8) (h : a.length + b.length ≤ 9223372036854775807) : (Op.stringOp .add ⟨a.toArray⟩ ⟨b.toArray⟩).run Tryd.prog W = .ok (.string ⟨(a ++ b).toArray⟩) W := by
  rw [run_string_add_sum W _ _ (by rw [size_mk, size_mk]; exact h), add_mk]
theorem textL_len (v : Int) (h0 : -9223372036854775808 ≤ v) (h1 : v ≤ 9223372036854775807) : (textL v).length ≤ 21 := by
  unfold textL
  split
  · have := dgs_len 10 (by omega) 20 v.natAbs (by omega) (by omega)
    simp; omega
  · have := dgs_len 10 (by omega) 20 v.toNat (by omega) (by omega)
    omega
/-- A reference's text. -/
def refL (th : Int) (nm : ByteArray) : List UInt8 := if th = -1 then nm.data.toList else textL th ++ 58 :: nm.data.toList
theorem infoRf : (Tryd.prog.info? 50).map (·.size) = some 2 := by kernel_rfl
theorem mkL (s : ByteArray) : s = ⟨s.data.toList.toArray⟩ := by cases s; rfl

set_option maxRecDepth 100000 in
set_option maxHeartbeats 1000000 in
theorem refText_any (th : Int) (nm : ByteArray) (h0 : -1 ≤ th) (h1 : th ≤ 9999) (hs : nm.size ≤ 64) (w : World) (hT : Tab10 w) :
    Calls Tryd.prog 22 #[.agg #[.int .i64 th, .string nm]] w fun e w' => e = .returned (.string ⟨(refL th nm).toArray⟩) ∧ Below w.heap.size w w' := by
  by_cases hm : th = -1
  · subst hm
    have HV : Hid (nm = ⟨(refL (-1) nm).toArray⟩) := (by show _ = _; unfold refL; rw [if_pos rfl])
    go_enter Tryd.func22, Tryd.ntmps22
    go_wp2_with (first
      | (refine wpList_boxS rfl 50 _ rfl [.int .i64 (-1), .string nm] rfl ?_; intro W1 b1 F1 N1; have B1 := F1.trans (Below.refl _ w) (Nat.le_refl _); have c0 : W1.cell? ⟨b1, 0, none⟩ = some (.int .i64 (-1)) := N1.cell 0; have c1 : W1.cell? ⟨b1, 1, none⟩ = some (.string nm) := N1.cell 1; clear F1))
    go_ret
    exact ⟨by rw [← HV.out]; rfl, B1⟩
  · have hm' : (th == -1) = false := beq_eq_false_iff_ne.2 hm
    have hl := textL_len th (by omega) (by omega)
    have hsl : nm.data.toList.length ≤ 64 := by rw [← sizeL]; exact hs
    obtain ⟨ml, hml⟩ : ∃ ml, nm.data.toList = ml := ⟨_, rfl⟩
    have hnm : nm = ⟨ml.toArray⟩ := by rw [← hml]
    have HV : Hid (refL th nm = textL th ++ [58] ++ ml) := (by show _ = _; unfold refL; rw [if_neg hm, hml]; simp)
    rw [hml] at hsl
    obtain ⟨R, hR⟩ : ∃ R, refL th nm = R := ⟨_, rfl⟩
    rw [hR] at HV ⊢
    clear hR hml
    subst hnm
    have cI := fun W h => itoa_any th (by omega) (by omega) W h
    generalize textL th = tl at *
    have ha1 : ∀ W, (Op.stringOp .add ⟨tl.toArray⟩ ⟨#[58]⟩).run Tryd.prog W = .ok (.string ⟨(tl ++ [58]).toArray⟩) W := fun W => addS W tl [58] (by simp; omega)
    have ha2 : ∀ W, (Op.stringOp .add ⟨(tl ++ [58]).toArray⟩ ⟨ml.toArray⟩).run Tryd.prog W = .ok (.string ⟨(tl ++ [58] ++ ml).toArray⟩) W := fun W => addS W (tl ++ [58]) ml (by simp; omega)
    clear hm h0 h1 hs
    go_enter Tryd.func22, Tryd.ntmps22
    go_wp2_with (first
      | (refine wpList_boxS rfl 50 _ rfl [.int .i64 th, .string ⟨ml.toArray⟩] rfl ?_; intro W1 b1 F1 N1; have B1 := F1.trans (Below.refl _ w) (Nat.le_refl _); have c0 : W1.cell? ⟨b1, 0, none⟩ = some (.int .i64 th) := N1.cell 0; have c1 : W1.cell? ⟨b1, 1, none⟩ = some (.string ⟨ml.toArray⟩) := N1.cell 1; clear F1))
    refine grow_allW (by kernel_rfl) (by kernel_rfl) ?_
    refine WG.put rfl (v := .pointer (some ⟨b1, 0, none⟩)) (fun w => by first | rfl | (go_simp; done) | (simp [go_sem]; done)) ?_
    simp only [Act.put, List.setIfInBounds_toArray, List.set_cons_succ, List.set_cons_zero]
    refine WG.cell rfl 3 _ rfl rfl c0 ld3 ?_
    simp only [Act.put, List.setIfInBounds_toArray, List.set_cons_succ, List.set_cons_zero]
    refine WG.call rfl (f := 38) (args := #[.int .i64 th]) (v := .string ⟨tl.toArray⟩) (fun w' hB' => cI w' (hT.below (Below.then B1 hB'))) (fun w => by first | rfl | (go_simp; done) | (simp [go_sem]; done)) ?_
    simp only [Act.put, List.setIfInBounds_toArray, List.set_cons_succ, List.set_cons_zero]
    refine WG.put rfl (v := .string ⟨(tl ++ [58]).toArray⟩) (fun w => by first | rfl | (go_simp; done) | (simp [go_sem, ha1]; done)) ?_
    simp only [Act.put, List.setIfInBounds_toArray, List.set_cons_succ, List.set_cons_zero]
    refine WG.put rfl (v := .pointer (some ⟨b1, 1, none⟩)) (fun w => by first | rfl | (go_simp; done) | (simp [go_sem]; done)) ?_
    simp only [Act.put, List.setIfInBounds_toArray, List.set_cons_succ, List.set_cons_zero]
    refine WG.cell rfl 9 _ rfl rfl c1 ld9 ?_
    simp only [Act.put, List.setIfInBounds_toArray, List.set_cons_succ, List.set_cons_zero]
    refine WG.put rfl (v := .string ⟨(tl ++ [58] ++ ml).toArray⟩) (fun w => by first | rfl | (go_simp; done) | (simp [go_sem, ha2]; done)) ?_
    simp only [Act.put, List.setIfInBounds_toArray, List.set_cons_succ, List.set_cons_zero]
    refine WG.put rfl (v := .string ⟨(tl ++ [58] ++ ml).toArray⟩) (fun w => by first | rfl | (go_simp; done) | (simp [go_sem]; done)) ?_
    simp only [Act.put, List.setIfInBounds_toArray, List.set_cons_succ, List.set_cons_zero]
    refine WG.nil ?_
    intro W6 B6
    go_wp2_with fail
    go_ret
    exact ⟨by rw [HV.out]; rfl, Below.then B1 B6⟩
set_option maxRecDepth 100000 in
theorem joint4 (w : World) : Calls Tryd.prog 24 #[.int .i64 4] w fun e w' => e = .returned (.string ⟨#[47, 92]⟩) ∧ w' = w := by
  go_enter Tryd.func24, Tryd.ntmps24
  go_wp2_with fail
  go_ret
  exact ⟨rfl, rfl⟩
set_option maxRecDepth 100000 in
theorem joint5 (w : World) : Calls Tryd.prog 24 #[.int .i64 5] w fun e w' => e = .returned (.string ⟨#[92, 47]⟩) ∧ w' = w := by
  go_enter Tryd.func24, Tryd.ntmps24
  go_wp2_with fail
  go_ret
  exact ⟨rfl, rfl⟩
end Go.Proofs.YtjnbhcakfenbhaaDoor

/- SDO -/
import Derived.Test.YtegpnicajlndlaaLO
namespace Go.Proofs.Ytegpnicajlndlaa
open Go.RowKit M
set_option linter.unusedSimpArgs false
set_option linter.unusedVariables false
theorem wrapEqD (x : Int) : IntKind.i64.wrap x = wrap64 x := by unfold wrap64; rw [IntKind.wrap_i64]
set_option maxRecDepth 100000 in
set_option maxHeartbeats 8000000 in
theorem sdo_imm (src loc imm : Int) (r s l nr cr nm cm t u b m ro mo : Nat) (ar am : Option Addr) (cs ds : List Value) (hr : r < nr) (hn : ro + nr ≤ cs.length) (hnr : nr ≤ 1048576) (hnm : nm ≤ 1048576) (w : World) (hrc : IsS w b t cs) :
    Calls Try.prog 108 #[.agg #[.int .i64 1, .int .i64 (r : Int), .int .i64 src, .int .i64 loc, .int .i64 imm], (.slice (some ⟨b, ro, none⟩) nr cr), (.slice am nm cm)] w fun en w' => en = .returned (.tuple #[]) ∧ IsS w' b t (cs.set (ro + r) (.int .i64 imm)) ∧ One w w' b := by
 have t1 : True := trivial
 have HrC : Hid (IsS w b t cs) := hrc
 have hblr := hrc.lt
 have hri : (r : Int) < nr := by omega
 have hkr : ro + r < cs.length := by omega
 clear hrc hn
 go_enter Try.func108, Try.ntmps108
 go_wp2_with (first
  | (clear t1; refine wpList_boxS rfl 63 _ rfl [.int .i64 1, .int .i64 (r : Int), .int .i64 src, .int .i64 loc, .int .i64 imm] rfl ?_; intro W1 bb F1 C1; have B1 : Below w.heap.size w W1 := F1.trans (Below.refl _ w) (Nat.le_refl _); have Dr1 := HrC.out.grown B1; obtain ⟨x0, x1, x2, x3, x4⟩ := five C1; clear F1)
  | (refine wpList_store1 rfl 2 _ _ rfl rfl (.int .i64 imm) rfl Dr1 hkr infoI2 rfl ?_; intro V0 U0 E0; have T0 := (One.of_below B1 b).trans (One.of_upd U0); clear U0))
 exact ⟨rfl, .tuple #[], (by simp [results, Try.results108, go_sem]), rfl, E0, T0⟩
set_option maxRecDepth 100000 in
set_option maxHeartbeats 8000000 in
theorem sdo_reg (loc imm vrs : Int) (r s l nr cr nm cm t u b m ro mo : Nat) (ar am : Option Addr) (cs ds : List Value) (hr : r < nr) (hs : s < nr) (hrs : cs[ro + s]? = some (.int .i64 vrs)) (hn : ro + nr ≤ cs.length) (hnr : nr ≤ 1048576) (hnm : nm ≤ 1048576) (w : World) (hrc : IsS w b t cs) :
    Calls Try.prog 108 #[.agg #[.int .i64 2, .int .i64 (r : Int), .int .i64 (s : Int), .int .i64 loc, .int .i64 imm], (.slice (some ⟨b, ro, none⟩) nr cr), (.slice am nm cm)] w fun en w' => en = .returned (.tuple #[]) ∧ IsS w' b t (cs.set (ro + r) (.int .i64 vrs)) ∧ One w w' b := by
 have t1 : True := trivial
 have HrC : Hid (IsS w b t cs) := hrc
 have hblr := hrc.lt
 have hri : (r : Int) < nr := by omega
 have hkr : ro + r < cs.length := by omega
 have hsi : (s : Int) < nr := by omega
 have zrs : w.cell? ⟨b, ro + s, none⟩ = some (.int .i64 vrs) := (hrc.cell _).trans hrs
 clear hrc hn hrs
 go_enter Try.func108, Try.ntmps108
 go_wp2_with (first
  | (clear t1; refine wpList_boxS rfl 63 _ rfl [.int .i64 2, .int .i64 (r : Int), .int .i64 (s : Int), .int .i64 loc, .int .i64 imm] rfl ?_; intro W1 bb F1 C1; have B1 : Below w.heap.size w W1 := F1.trans (Below.refl _ w) (Nat.le_refl _); have Dr1 := HrC.out.grown B1; have yrs : W1.cell? ⟨b, ro + s, none⟩ = some (.int .i64 vrs) := (by rw [B1.cell (p := ⟨b, ro + s, none⟩) hblr]; exact zrs); obtain ⟨x0, x1, x2, x3, x4⟩ := five C1; clear F1))
 refine grow_tailV 9 (by kernel_rfl) (by kernel_rfl) ?_
 refine WG.put rfl (v := (.slice (some ⟨b, ro, none⟩) nr cr)) (fun w => by first | rfl | (go_simp; done) | (simp [go_sem]; done) | (simp [execOp, go_sem]; done) | (simp [execOp, go_sem]; exact wrapEqD _)) ?_; simp only [sP]
 refine WG.put rfl (v := .pointer (some ⟨bb, 1, none⟩)) (fun w => by first | rfl | (go_simp; done) | (simp [go_sem]; done) | (simp [execOp, go_sem]; done) | (simp [execOp, go_sem]; exact wrapEqD _)) ?_; simp only [sP]
 refine WG.cell rfl 3 _ rfl rfl x1 (fun w h => ld3' w h) ?_; simp only [sP]
 refine WG.put rfl (v := (.slice (some ⟨b, ro, none⟩) nr cr)) (fun w => by first | rfl | (go_simp; done) | (simp [go_sem]; done) | (simp [execOp, go_sem]; done) | (simp [execOp, go_sem]; exact wrapEqD _)) ?_; simp only [sP]
 refine WG.put rfl (v := .pointer (some ⟨bb, 2, none⟩)) (fun w => by first | rfl | (go_simp; done) | (simp [go_sem]; done) | (simp [execOp, go_sem]; done) | (simp [execOp, go_sem]; exact wrapEqD _)) ?_; simp only [sP]
 refine WG.cell rfl 3 _ rfl rfl x2 (fun w h => ld3' w h) ?_; simp only [sP]
 refine WG.put rfl (v := .pointer (some ⟨b, ro + s, none⟩)) (fun w => by first | rfl | (go_simp; done) | (simp [go_sem]; done) | (simp [execOp, go_sem]; done) | (simp [execOp, go_sem]; exact wrapEqD _)) ?_; simp only [sP]
 refine WG.cell rfl 2 _ rfl rfl yrs (fun w h => ld2 w h) ?_; simp only [sP]
 refine WG.put rfl (v := .pointer (some ⟨b, ro + r, none⟩)) (fun w => by first | rfl | (go_simp; done) | (simp [go_sem]; done) | (simp [execOp, go_sem]; done) | (simp [execOp, go_sem]; exact wrapEqD _)) ?_; simp only [sP]
 refine WG.nil ?_
 intro W4 B4x
 have Dr4 := IsS.grown Dr1 B4x
 have B4 := Below.then B1 B4x
 clear B4x
 simp only [List.drop_succ_cons, List.drop_zero]
 go_wp2_with (first
  | (refine wpList_store1 rfl 2 _ _ rfl rfl (.int .i64 vrs) rfl Dr4 hkr infoI2 rfl ?_; intro V0 U0 E0; have T0 := (One.of_below B4 b).trans (One.of_upd U0); clear U0))
 exact ⟨rfl, .tuple #[], (by simp [results, Try.results108, go_sem]), rfl, E0, T0⟩
set_option maxRecDepth 100000 in
set_option maxHeartbeats 8000000 in
theorem sdo_load (src imm vml : Int) (r s l nr cr nm cm t u b m ro mo : Nat) (ar am : Option Addr) (cs ds : List Value) (hr : r < nr) (hl : l < nm) (hml : ds[mo + l]? = some (.int .i64 vml)) (hn : ro + nr ≤ cs.length) (hm : mo + nm ≤ ds.length) (hbm : b ≠ m) (hnr : nr ≤ 1048576) (hnm : nm ≤ 1048576) (w : World) (hrc : IsS w b t cs) (hmc : IsS w m u ds) :
    Calls Try.prog 108 #[.agg #[.int .i64 3, .int .i64 (r : Int), .int .i64 src, .int .i64 (l : Int), .int .i64 imm], (.slice (some ⟨b, ro, none⟩) nr cr), (.slice (some ⟨m, mo, none⟩) nm cm)] w fun en w' => en = .returned (.tuple #[]) ∧ IsS w' b t (cs.set (ro + r) (.int .i64 vml)) ∧ IsS w' m u ds ∧ One w w' b := by
 have t1 : True := trivial
 have HrC : Hid (IsS w b t cs) := hrc
 have hblr := hrc.lt
 have HmC : Hid (IsS w m u ds) := hmc
 have hblm := hmc.lt
 have hri : (r : Int) < nr := by omega
 have hkr : ro + r < cs.length := by omega
 have hli : (l : Int) < nm := by omega
 have hkl : mo + l < ds.length := by omega
 have zml : w.cell? ⟨m, mo + l, none⟩ = some (.int .i64 vml) := (hmc.cell _).trans hml
 clear hrc hmc hn hm hml
 go_enter Try.func108, Try.ntmps108
 go_wp2_with (first
  | (clear t1; refine wpList_boxS rfl 63 _ rfl [.int .i64 3, .int .i64 (r : Int), .int .i64 src, .int .i64 (l : Int), .int .i64 imm] rfl ?_; intro W1 bb F1 C1; have B1 : Below w.heap.size w W1 := F1.trans (Below.refl _ w) (Nat.le_refl _); have Dr1 := HrC.out.grown B1; have Dm1 := HmC.out.grown B1; have yml : W1.cell? ⟨m, mo + l, none⟩ = some (.int .i64 vml) := (by rw [B1.cell (p := ⟨m, mo + l, none⟩) hblm]; exact zml); obtain ⟨x0, x1, x2, x3, x4⟩ := five C1; clear F1))
 refine grow_tailV 9 (by kernel_rfl) (by kernel_rfl) ?_
 refine WG.put rfl (v := (.slice (some ⟨b, ro, none⟩) nr cr)) (fun w => by first | rfl | (go_simp; done) | (simp [go_sem]; done) | (simp [execOp, go_sem]; done) | (simp [execOp, go_sem]; exact wrapEqD _)) ?_; simp only [sP]
 refine WG.put rfl (v := .pointer (some ⟨bb, 1, none⟩)) (fun w => by first | rfl | (go_simp; done) | (simp [go_sem]; done) | (simp [execOp, go_sem]; done) | (simp [execOp, go_sem]; exact wrapEqD _)) ?_; simp only [sP]
 refine WG.cell rfl 3 _ rfl rfl x1 (fun w h => ld3' w h) ?_; simp only [sP]
 refine WG.put rfl (v := (.slice (some ⟨m, mo, none⟩) nm cm)) (fun w => by first | rfl | (go_simp; done) | (simp [go_sem]; done) | (simp [execOp, go_sem]; done) | (simp [execOp, go_sem]; exact wrapEqD _)) ?_; simp only [sP]
 refine WG.put rfl (v := .pointer (some ⟨bb, 3, none⟩)) (fun w => by first | rfl | (go_simp; done) | (simp [go_sem]; done) | (simp [execOp, go_sem]; done) | (simp [execOp, go_sem]; exact wrapEqD _)) ?_; simp only [sP]
 refine WG.cell rfl 3 _ rfl rfl x3 (fun w h => ld3' w h) ?_; simp only [sP]
 refine WG.put rfl (v := .pointer (some ⟨m, mo + l, none⟩)) (fun w => by first | rfl | (go_simp; done) | (simp [go_sem]; done) | (simp [execOp, go_sem]; done) | (simp [execOp, go_sem]; exact wrapEqD _)) ?_; simp only [sP]
 refine WG.cell rfl 2 _ rfl rfl yml (fun w h => ld2 w h) ?_; simp only [sP]
 refine WG.put rfl (v := .pointer (some ⟨b, ro + r, none⟩)) (fun w => by first | rfl | (go_simp; done) | (simp [go_sem]; done) | (simp [execOp, go_sem]; done) | (simp [execOp, go_sem]; exact wrapEqD _)) ?_; simp only [sP]
 refine WG.nil ?_
 intro W4 B4x
 have Dr4 := IsS.grown Dr1 B4x
 have Dm4 := IsS.grown Dm1 B4x
 have B4 := Below.then B1 B4x
 clear B4x
 simp only [List.drop_succ_cons, List.drop_zero]
 go_wp2_with (first
  | (refine wpList_store1 rfl 2 _ _ rfl rfl (.int .i64 vml) rfl Dr4 hkr infoI2 rfl ?_; intro V0 U0 E0; have T0 := (One.of_below B4 b).trans (One.of_upd U0); have G0 := Dm4.upd U0 hbm.symm; clear U0))
 exact ⟨rfl, .tuple #[], (by simp [results, Try.results108, go_sem]), rfl, E0, G0, T0⟩
set_option maxRecDepth 100000 in
set_option maxHeartbeats 8000000 in
theorem sdo_store (reg src imm : Int) (r s l nr cr nm cm t u b m ro mo : Nat) (ar am : Option Addr) (cs ds : List Value) (hl : l < nm) (hm : mo + nm ≤ ds.length) (hnr : nr ≤ 1048576) (hnm : nm ≤ 1048576) (w : World) (hmc : IsS w m u ds) :
    Calls Try.prog 108 #[.agg #[.int .i64 4, .int .i64 reg, .int .i64 src, .int .i64 (l : Int), .int .i64 imm], (.slice ar nr cr), (.slice (some ⟨m, mo, none⟩) nm cm)] w fun en w' => en = .returned (.tuple #[]) ∧ IsS w' m u (ds.set (mo + l) (.int .i64 imm)) ∧ One w w' m := by
 have t1 : True := trivial
 have HmC : Hid (IsS w m u ds) := hmc
 have hblm := hmc.lt
 have hli : (l : Int) < nm := by omega
 have hkl : mo + l < ds.length := by omega
 clear hmc hm
 go_enter Try.func108, Try.ntmps108
 go_wp2_with (first
  | (clear t1; refine wpList_boxS rfl 63 _ rfl [.int .i64 4, .int .i64 reg, .int .i64 src, .int .i64 (l : Int), .int .i64 imm] rfl ?_; intro W1 bb F1 C1; have B1 : Below w.heap.size w W1 := F1.trans (Below.refl _ w) (Nat.le_refl _); have Dm1 := HmC.out.grown B1; obtain ⟨x0, x1, x2, x3, x4⟩ := five C1; clear F1)
  | (refine wpList_store1 rfl 2 _ _ rfl rfl (.int .i64 imm) rfl Dm1 hkl infoI2 rfl ?_; intro V0 U0 E0; have T0 := (One.of_below B1 m).trans (One.of_upd U0); clear U0))
 exact ⟨rfl, .tuple #[], (by simp [results, Try.results108, go_sem]), rfl, E0, T0⟩
set_option maxRecDepth 100000 in
set_option maxHeartbeats 8000000 in
theorem sdo_storer (reg imm vrs : Int) (r s l nr cr nm cm t u b m ro mo : Nat) (ar am : Option Addr) (cs ds : List Value) (hs : s < nr) (hl : l < nm) (hrs : cs[ro + s]? = some (.int .i64 vrs)) (hn : ro + nr ≤ cs.length) (hm : mo + nm ≤ ds.length) (hbm : b ≠ m) (hnr : nr ≤ 1048576) (hnm : nm ≤ 1048576) (w : World) (hrc : IsS w b t cs) (hmc : IsS w m u ds) :
    Calls Try.prog 108 #[.agg #[.int .i64 5, .int .i64 reg, .int .i64 (s : Int), .int .i64 (l : Int), .int .i64 imm], (.slice (some ⟨b, ro, none⟩) nr cr), (.slice (some ⟨m, mo, none⟩) nm cm)] w fun en w' => en = .returned (.tuple #[]) ∧ IsS w' b t cs ∧ IsS w' m u (ds.set (mo + l) (.int .i64 vrs)) ∧ One w w' m := by
 have t1 : True := trivial
 have HrC : Hid (IsS w b t cs) := hrc
 have hblr := hrc.lt
 have HmC : Hid (IsS w m u ds) := hmc
 have hblm := hmc.lt
 have hsi : (s : Int) < nr := by omega
 have hli : (l : Int) < nm := by omega
 have hkl : mo + l < ds.length := by omega
 have zrs : w.cell? ⟨b, ro + s, none⟩ = some (.int .i64 vrs) := (hrc.cell _).trans hrs
 clear hrc hmc hn hm hrs
 go_enter Try.func108, Try.ntmps108
 go_wp2_with (first
  | (clear t1; refine wpList_boxS rfl 63 _ rfl [.int .i64 5, .int .i64 reg, .int .i64 (s : Int), .int .i64 (l : Int), .int .i64 imm] rfl ?_; intro W1 bb F1 C1; have B1 : Below w.heap.size w W1 := F1.trans (Below.refl _ w) (Nat.le_refl _); have Dr1 := HrC.out.grown B1; have Dm1 := HmC.out.grown B1; have yrs : W1.cell? ⟨b, ro + s, none⟩ = some (.int .i64 vrs) := (by rw [B1.cell (p := ⟨b, ro + s, none⟩) hblr]; exact zrs); obtain ⟨x0, x1, x2, x3, x4⟩ := five C1; clear F1))
 refine grow_tailV 9 (by kernel_rfl) (by kernel_rfl) ?_
 refine WG.put rfl (v := (.slice (some ⟨m, mo, none⟩) nm cm)) (fun w => by first | rfl | (go_simp; done) | (simp [go_sem]; done) | (simp [execOp, go_sem]; done) | (simp [execOp, go_sem]; exact wrapEqD _)) ?_; simp only [sP]
 refine WG.put rfl (v := .pointer (some ⟨bb, 3, none⟩)) (fun w => by first | rfl | (go_simp; done) | (simp [go_sem]; done) | (simp [execOp, go_sem]; done) | (simp [execOp, go_sem]; exact wrapEqD _)) ?_; simp only [sP]
 refine WG.cell rfl 3 _ rfl rfl x3 (fun w h => ld3' w h) ?_; simp only [sP]
 refine WG.put rfl (v := (.slice (some ⟨b, ro, none⟩) nr cr)) (fun w => by first | rfl | (go_simp; done) | (simp [go_sem]; done) | (simp [execOp, go_sem]; done) | (simp [execOp, go_sem]; exact wrapEqD _)) ?_; simp only [sP]
 refine WG.put rfl (v := .pointer (some ⟨bb, 2, none⟩)) (fun w => by first | rfl | (go_simp; done) | (simp [go_sem]; done) | (simp [execOp, go_sem]; done) | (simp [execOp, go_sem]; exact wrapEqD _)) ?_; simp only [sP]
 refine WG.cell rfl 3 _ rfl rfl x2 (fun w h => ld3' w h) ?_; simp only [sP]
 refine WG.put rfl (v := .pointer (some ⟨b, ro + s, none⟩)) (fun w => by first | rfl | (go_simp; done) | (simp [go_sem]; done) | (simp [execOp, go_sem]; done) | (simp [execOp, go_sem]; exact wrapEqD _)) ?_; simp only [sP]
 refine WG.cell rfl 2 _ rfl rfl yrs (fun w h => ld2 w h) ?_; simp only [sP]
 refine WG.put rfl (v := .pointer (some ⟨m, mo + l, none⟩)) (fun w => by first | rfl | (go_simp; done) | (simp [go_sem]; done) | (simp [execOp, go_sem]; done) | (simp [execOp, go_sem]; exact wrapEqD _)) ?_; simp only [sP]
 refine WG.nil ?_
 intro W4 B4x
 have Dr4 := IsS.grown Dr1 B4x
 have Dm4 := IsS.grown Dm1 B4x
 have B4 := Below.then B1 B4x
 clear B4x
 simp only [List.drop_succ_cons, List.drop_zero]
 go_wp2_with (first
  | (refine wpList_store1 rfl 2 _ _ rfl rfl (.int .i64 vrs) rfl Dm4 hkl infoI2 rfl ?_; intro V0 U0 E0; have T0 := (One.of_below B4 m).trans (One.of_upd U0); have G0 := Dr4.upd U0 hbm; clear U0))
 exact ⟨rfl, .tuple #[], (by simp [results, Try.results108, go_sem]), rfl, G0, E0, T0⟩
set_option maxRecDepth 100000 in
set_option maxHeartbeats 8000000 in
theorem sdo_cmp (imm vrr vrs : Int) (r s l nr cr nm cm t u b m ro mo : Nat) (ar am : Option Addr) (cs ds : List Value) (hr : r < nr) (hs : s < nr) (hl : l < nm) (hrr : cs[ro + r]? = some (.int .i64 vrr)) (hml : ds[mo + l]? = some (.int .i64 vrr)) (hrs : cs[ro + s]? = some (.int .i64 vrs)) (hn : ro + nr ≤ cs.length) (hm : mo + nm ≤ ds.length) (hbm : b ≠ m) (hnr : nr ≤ 1048576) (hnm : nm ≤ 1048576) (w : World) (hrc : IsS w b t cs) (hmc : IsS w m u ds) :
    Calls Try.prog 108 #[.agg #[.int .i64 8, .int .i64 (r : Int), .int .i64 (s : Int), .int .i64 (l : Int), .int .i64 imm], (.slice (some ⟨b, ro, none⟩) nr cr), (.slice (some ⟨m, mo, none⟩) nm cm)] w fun en w' => en = .returned (.tuple #[]) ∧ IsS w' b t cs ∧ IsS w' m u (ds.set (mo + l) (.int .i64 vrs)) ∧ One w w' m := by
 have t1 : True := trivial
 have HrC : Hid (IsS w b t cs) := hrc
 have hblr := hrc.lt
 have HmC : Hid (IsS w m u ds) := hmc
 have hblm := hmc.lt
 have hri : (r : Int) < nr := by omega
 have hkr : ro + r < cs.length := by omega
 have hsi : (s : Int) < nr := by omega
 have hli : (l : Int) < nm := by omega
 have hkl : mo + l < ds.length := by omega
 have zrr : w.cell? ⟨b, ro + r, none⟩ = some (.int .i64 vrr) := (hrc.cell _).trans hrr
 have zml : w.cell? ⟨m, mo + l, none⟩ = some (.int .i64 vrr) := (hmc.cell _).trans hml
 have zrs : w.cell? ⟨b, ro + s, none⟩ = some (.int .i64 vrs) := (hrc.cell _).trans hrs
 clear hrc hmc hn hm hrr hml hrs
 go_enter Try.func108, Try.ntmps108
 go_wp2_with (first
  | (clear t1; refine wpList_boxS rfl 63 _ rfl [.int .i64 8, .int .i64 (r : Int), .int .i64 (s : Int), .int .i64 (l : Int), .int .i64 imm] rfl ?_; intro W1 bb F1 C1; have B1 : Below w.heap.size w W1 := F1.trans (Below.refl _ w) (Nat.le_refl _); have Dr1 := HrC.out.grown B1; have Dm1 := HmC.out.grown B1; have yrr : W1.cell? ⟨b, ro + r, none⟩ = some (.int .i64 vrr) := (by rw [B1.cell (p := ⟨b, ro + r, none⟩) hblr]; exact zrr); have yml : W1.cell? ⟨m, mo + l, none⟩ = some (.int .i64 vrr) := (by rw [B1.cell (p := ⟨m, mo + l, none⟩) hblm]; exact zml); have yrs : W1.cell? ⟨b, ro + s, none⟩ = some (.int .i64 vrs) := (by rw [B1.cell (p := ⟨b, ro + s, none⟩) hblr]; exact zrs); obtain ⟨x0, x1, x2, x3, x4⟩ := five C1; clear F1))
 refine grow_tailV 9 (by kernel_rfl) (by kernel_rfl) ?_
 refine WG.put rfl (v := (.slice (some ⟨m, mo, none⟩) nm cm)) (fun w => by first | rfl | (go_simp; done) | (simp [go_sem]; done) | (simp [execOp, go_sem]; done) | (simp [execOp, go_sem]; exact wrapEqD _)) ?_; simp only [sP]
 refine WG.put rfl (v := .pointer (some ⟨bb, 3, none⟩)) (fun w => by first | rfl | (go_simp; done) | (simp [go_sem]; done) | (simp [execOp, go_sem]; done) | (simp [execOp, go_sem]; exact wrapEqD _)) ?_; simp only [sP]
 refine WG.cell rfl 3 _ rfl rfl x3 (fun w h => ld3' w h) ?_; simp only [sP]
 refine WG.put rfl (v := (.slice (some ⟨b, ro, none⟩) nr cr)) (fun w => by first | rfl | (go_simp; done) | (simp [go_sem]; done) | (simp [execOp, go_sem]; done) | (simp [execOp, go_sem]; exact wrapEqD _)) ?_; simp only [sP]
 refine WG.put rfl (v := .pointer (some ⟨bb, 2, none⟩)) (fun w => by first | rfl | (go_simp; done) | (simp [go_sem]; done) | (simp [execOp, go_sem]; done) | (simp [execOp, go_sem]; exact wrapEqD _)) ?_; simp only [sP]
 refine WG.cell rfl 3 _ rfl rfl x2 (fun w h => ld3' w h) ?_; simp only [sP]
 refine WG.put rfl (v := .pointer (some ⟨b, ro + s, none⟩)) (fun w => by first | rfl | (go_simp; done) | (simp [go_sem]; done) | (simp [execOp, go_sem]; done) | (simp [execOp, go_sem]; exact wrapEqD _)) ?_; simp only [sP]
 refine WG.cell rfl 2 _ rfl rfl yrs (fun w h => ld2 w h) ?_; simp only [sP]
 refine WG.put rfl (v := .pointer (some ⟨m, mo + l, none⟩)) (fun w => by first | rfl | (go_simp; done) | (simp [go_sem]; done) | (simp [execOp, go_sem]; done) | (simp [execOp, go_sem]; exact wrapEqD _)) ?_; simp only [sP]
 refine WG.nil ?_
 intro W4 B4x
 have Dr4 := IsS.grown Dr1 B4x
 have Dm4 := IsS.grown Dm1 B4x
 have B4 := Below.then B1 B4x
 clear B4x
 simp only [List.drop_succ_cons, List.drop_zero]
 go_wp2_with (first
  | (refine wpList_store1 rfl 2 _ _ rfl rfl (.int .i64 vrs) rfl Dm4 hkl infoI2 rfl ?_; intro V0 U0 E0; have T0 := (One.of_below B4 m).trans (One.of_upd U0); have G0 := Dr4.upd U0 hbm; clear U0))
 exact ⟨rfl, .tuple #[], (by simp [results, Try.results108, go_sem]), rfl, G0, E0, T0⟩
set_option maxRecDepth 100000 in
set_option maxHeartbeats 8000000 in
theorem sdo_ncmp (src imm vrr vml : Int) (r s l nr cr nm cm t u b m ro mo : Nat) (ar am : Option Addr) (cs ds : List Value) (hr : r < nr) (hl : l < nm) (hrr : cs[ro + r]? = some (.int .i64 vrr)) (hml : ds[mo + l]? = some (.int .i64 vml)) (hne : vml ≠ vrr) (hn : ro + nr ≤ cs.length) (hm : mo + nm ≤ ds.length) (hbm : b ≠ m) (hnr : nr ≤ 1048576) (hnm : nm ≤ 1048576) (w : World) (hrc : IsS w b t cs) (hmc : IsS w m u ds) :
    Calls Try.prog 108 #[.agg #[.int .i64 8, .int .i64 (r : Int), .int .i64 src, .int .i64 (l : Int), .int .i64 imm], (.slice (some ⟨b, ro, none⟩) nr cr), (.slice (some ⟨m, mo, none⟩) nm cm)] w fun en w' => en = .returned (.tuple #[]) ∧ IsS w' b t (cs.set (ro + r) (.int .i64 vml)) ∧ IsS w' m u ds ∧ One w w' b := by
 have t1 : True := trivial
 have HrC : Hid (IsS w b t cs) := hrc
 have hblr := hrc.lt
 have HmC : Hid (IsS w m u ds) := hmc
 have hblm := hmc.lt
 have hri : (r : Int) < nr := by omega
 have hkr : ro + r < cs.length := by omega
 have hli : (l : Int) < nm := by omega
 have hkl : mo + l < ds.length := by omega
 have zrr : w.cell? ⟨b, ro + r, none⟩ = some (.int .i64 vrr) := (hrc.cell _).trans hrr
 have zml : w.cell? ⟨m, mo + l, none⟩ = some (.int .i64 vml) := (hmc.cell _).trans hml
 clear hrc hmc hn hm hrr hml
 go_enter Try.func108, Try.ntmps108
 go_wp2_with (first
  | (clear t1; refine wpList_boxS rfl 63 _ rfl [.int .i64 8, .int .i64 (r : Int), .int .i64 src, .int .i64 (l : Int), .int .i64 imm] rfl ?_; intro W1 bb F1 C1; have B1 : Below w.heap.size w W1 := F1.trans (Below.refl _ w) (Nat.le_refl _); have Dr1 := HrC.out.grown B1; have Dm1 := HmC.out.grown B1; have yrr : W1.cell? ⟨b, ro + r, none⟩ = some (.int .i64 vrr) := (by rw [B1.cell (p := ⟨b, ro + r, none⟩) hblr]; exact zrr); have yml : W1.cell? ⟨m, mo + l, none⟩ = some (.int .i64 vml) := (by rw [B1.cell (p := ⟨m, mo + l, none⟩) hblm]; exact zml); obtain ⟨x0, x1, x2, x3, x4⟩ := five C1; clear F1)
  | (refine wpList_store1 rfl 2 _ _ rfl rfl (.int .i64 vml) rfl Dr1 hkr infoI2 rfl ?_; intro V0 U0 E0; have T0 := (One.of_below B1 b).trans (One.of_upd U0); have G0 := Dm1.upd U0 hbm.symm; clear U0))
 exact ⟨rfl, .tuple #[], (by simp [results, Try.results108, go_sem]), rfl, E0, G0, T0⟩
set_option maxRecDepth 100000 in
set_option maxHeartbeats 8000000 in
theorem sdo_none (k reg src loc imm : Int) (a a' : Option Addr) (nr cr nm cm : Nat) (h1 : k ≠ 1) (h2 : k ≠ 2) (h3 : k ≠ 3) (h4 : k ≠ 4) (h5 : k ≠ 5) (h7 : k ≠ 7) (h8 : k ≠ 8) (h9 : k ≠ 9) (w : World) :
    Calls Try.prog 108 #[.agg #[.int .i64 k, .int .i64 reg, .int .i64 src, .int .i64 loc, .int .i64 imm], .slice a nr cr, .slice a' nm cm] w fun en w' => en = .returned (.tuple #[]) ∧ Below w.heap.size w w' := by
 have t1 : True := trivial
 go_enter Try.func108, Try.ntmps108
 go_wp2_with (first
  | (clear t1; refine wpList_boxS rfl 63 _ rfl [.int .i64 k, .int .i64 reg, .int .i64 src, .int .i64 loc, .int .i64 imm] rfl ?_; intro W1 bb F1 C1; have B1 : Below w.heap.size w W1 := F1.trans (Below.refl _ w) (Nat.le_refl _); obtain ⟨x0, x1, x2, x3, x4⟩ := five C1; clear F1))
 exact ⟨rfl, .tuple #[], (by simp [results, Try.results108, go_sem]), rfl, B1⟩
end Go.Proofs.Ytegpnicajlndlaa

/- SDX -/
import Derived.Test.YtegpnicajlndlaaSDO
import Derived.Test.YtegpnicajlndlaaQae
namespace Go.Proofs.Ytegpnicajlndlaa
open Go.RowKit M
set_option linter.unusedSimpArgs false
set_option linter.unusedVariables false
structure Two (w W : World) (b m : Nat) : Prop where
 os : W.os = w.os
 tape : W.tape = w.tape
 output : W.output = w.output
 size : w.heap.size ≤ W.heap.size
 block : ∀ k, k < w.heap.size → k ≠ b → k ≠ m → W.heap[k]? = w.heap[k]?
theorem Two.of_below {w W : World} (h : Below w.heap.size w W) (b m : Nat) : Two w W b m := ⟨h.os, h.tape, h.output, h.size, fun k hk _ _ => h.block k hk⟩
theorem Two.of_one {w W : World} {b : Nat} (h : One w W b) (m : Nat) : Two w W b m := ⟨h.os, h.tape, h.output, h.size, fun k hk h1 _ => h.block k hk h1⟩
theorem Two.of_oneR {w W : World} {m : Nat} (h : One w W m) (b : Nat) : Two w W b m := ⟨h.os, h.tape, h.output, h.size, fun k hk _ h2 => h.block k hk h2⟩
theorem Two.of_updL {w W : World} {b m : Nat} (h : Upd w W b) : Two w W b m := Two.of_one (One.of_upd h) m
theorem Two.of_updR {w W : World} {b m : Nat} (h : Upd w W m) : Two w W b m := Two.of_oneR (One.of_upd h) b
theorem Two.trans {w W W' : World} {b m : Nat} (h : Two w W b m) (h' : Two W W' b m) : Two w W' b m :=
 ⟨h'.os.trans h.os, h'.tape.trans h.tape, h'.output.trans h.output, Nat.le_trans h.size h'.size, fun k hk h1 h2 => (h'.block k (Nat.lt_of_lt_of_le hk h.size) h1 h2).trans (h.block k hk h1 h2)⟩
theorem Two.of_drew {w W : World} {b m : Nat} (h : Two w W b m) : Two w { W with drawn := W.drawn + 1 } b m := ⟨h.os, h.tape, h.output, h.size, h.block⟩
theorem keepG {listed : Array Bool} {i j : Nat} {c : Bool} (hij : i ≠ j) (h : (listed.setIfInBounds i true).getD j false = c) : listed.getD j false = c := by rw [getD_set_ne false hij] at h; exact h
theorem nowT {listed : Array Bool} {i : Nat} (h : i < listed.size) : (listed.setIfInBounds i true).getD i false = true := by simp [h]
theorem keepT {listed : Array Bool} {i j : Nat} (h : listed.getD j false = true) : (listed.setIfInBounds i true).getD j false = true := by
 by_cases hij : i = j
 · subst hij
   have hs : i < listed.size := by
    by_cases hs : i < listed.size
    · exact hs
    · simp [hs] at h
   exact nowT hs
 · rw [getD_set_ne false hij]; exact h
theorem getD_in' {α : Type} {ops : Array α} {listed : Array Bool} {i : Nat} {o : α} (_ : ops[i]? = some o) (h : listed.getD i true = false) : i < listed.size := by
 by_cases hs : i < listed.size
 · exact hs
 · simp [hs] at h
section
variable {ops : Array Oper} {Q : Exit → Act → World → Prop}
theorem wpOp_cell {i : Nat} {o : Oper} {K : Act → World → Prop} {a : Act} {w : World} {v : Value} {b k : Nat} (hi : ops[i]? = some o) (hg : o.guard = none) (ty : TypeId) (x : Operand) (ho : o.op = .load ty x) (hx : a.eval x = .pointer (some ⟨b, k, none⟩))
    (hl : (Instr.loadAt ty (.pointer (some ⟨b, k, none⟩))).run Try.prog w = .ok v w) (h : K (a.put o.dst v) w) : wpOp Try.prog ops Q i K a w := by
 refine wpOp_value hi hg (v := v) (w' := w) ?_ h
 unfold execOp
 simp only [ho, hx, Sem.run_bind, hl, Result.andThen_ok, Sem.run_pure]
theorem wpOp_store {i : Nat} {o : Oper} {K : Act → World → Prop} {a : Act} {w : World} {b k t : Nat} {cs : List Value} (hi : ops[i]? = some o) (hg : o.guard = none) (ty : TypeId) (x y : Operand) (ho : o.op = .store ty x y) (hx : a.eval x = .pointer (some ⟨b, k, none⟩)) (v : Value) (hy : a.eval y = v) (hc : IsS w b t cs)
    (hk : k < cs.length) (hf : (Try.prog.info? ty).map (·.size) = some 1) (h1 : v.oneCell' = true) (h : ∀ W, Upd w W b → IsS W b t (cs.set k v) → K (a.put o.dst undef) W) : wpOp Try.prog ops Q i K a w := by
 unfold wpOp
 rw [hi]
 simp only [Region.wanted, hg, if_true]
 refine Or.inl ?_
 unfold Oper.wp execOp
 simp only [ho, hx, hy, Instr.storeAt, Instr.sureAddr, Sem.run_bind, Sem.run_pure, Result.andThen_ok, run_store1 w b k ty v (hc.there k 1 (by omega)) hf h1]
 exact h _ (Upd.setCell w b k v) (hc.set1 k v)
end
set_option maxRecDepth 100000 in
set_option maxHeartbeats 8000000 in
theorem sdo_xchg (src imm vrr vml : Int) (r l nr cr nm cm t u b m ro mo : Nat) (cs ds : List Value) (hr : r < nr) (hl : l < nm) (hrr : cs[ro + r]? = some (.int .i64 vrr)) (hml : ds[mo + l]? = some (.int .i64 vml)) (hn : ro + nr ≤ cs.length) (hm : mo + nm ≤ ds.length) (hbm : b ≠ m) (hnr : nr ≤ 1048576) (hnm : nm ≤ 1048576) (w : World) (hrc : IsS w b t cs) (hmc : IsS w m u ds) :
    Calls Try.prog 108 #[.agg #[.int .i64 7, .int .i64 (r : Int), .int .i64 src, .int .i64 (l : Int), .int .i64 imm], (.slice (some ⟨b, ro, none⟩) nr cr), (.slice (some ⟨m, mo, none⟩) nm cm)] w fun en w' => en = .returned (.tuple #[]) ∧ IsS w' b t (cs.set (ro + r) (.int .i64 vml)) ∧ IsS w' m u (ds.set (mo + l) (.int .i64 vrr)) ∧ Two w w' b m := by
 have t1 : True := trivial
 have HrC : Hid (IsS w b t cs) := hrc
 have HmC : Hid (IsS w m u ds) := hmc
 have hblr := hrc.lt
 have hblm := hmc.lt
 have hri : (r : Int) < nr := by omega
 have hkr : ro + r < cs.length := by omega
 have hli : (l : Int) < nm := by omega
 have hkl : mo + l < ds.length := by omega
 have zml : w.cell? ⟨m, mo + l, none⟩ = some (.int .i64 vml) := (hmc.cell _).trans hml
 have Hrr : Hid (cs[ro + r]? = some (.int .i64 vrr)) := hrr
 have Hml : Hid (ds[mo + l]? = some (.int .i64 vml)) := hml
 clear hrc hmc hn hm hrr hml
 go_enter Try.func108, Try.ntmps108
 go_wp2_with (first
  | (clear t1; refine wpList_boxS rfl 63 _ rfl [.int .i64 7, .int .i64 (r : Int), .int .i64 src, .int .i64 (l : Int), .int .i64 imm] rfl ?_; intro W1 bb F1 C1; have B1 : Below w.heap.size w W1 := F1.trans (Below.refl _ w) (Nat.le_refl _); have D1 := HrC.out.grown B1; have D2 := HmC.out.grown B1; have yml : W1.cell? ⟨m, mo + l, none⟩ = some (.int .i64 vml) := (by rw [B1.cell (p := ⟨m, mo + l, none⟩) hblm]; exact zml); have nbb : bb ≠ b := (by have := F1.at'; omega); have nbm : bb ≠ m := (by have := F1.at'; omega); obtain ⟨x0, x1, x2, x3, x4⟩ := five C1; clear F1))
 clear x0 x1 x2 x3 x4 yml zml
 refine region_invA 18 (fun a0 listed a' w' => ∃ x61 x62 x63 x64 x65 x66 x67 x68 x69 x70 x71 x72 x73 x74 x75 x76 x77 : Value, a' = (((((((((((((((((a0.put (some 61) x61).put (some 62) x62).put (some 63) x63).put (some 64) x64).put (some 65) x65).put (some 66) x66).put (some 67) x67).put (some 68) x68).put (some 69) x69).put (some 70) x70).put (some 71) x71).put (some 72) x72).put (some 73) x73).put (some 74) x74).put (some 75) x75).put (some 76) x76).put (some 77) x77) ∧ Hid (Two w w' b m ∧ IsS w' bb 63 [.int .i64 7, .int .i64 (r : Int), .int .i64 src, .int .i64 (l : Int), .int .i64 imm] ∧ IsS w' b t cs) ∧ (listed.getD 17 false = false → IsS w' m u ds) ∧ (listed.getD 17 false = true → IsS w' m u (ds.set (mo + l) (.int .i64 vrr)) ∧ listed.getD 10 false = true ∧ listed.getD 15 false = true) ∧ (listed.getD 0 false = true → x61 = (.slice (some ⟨m, mo, none⟩) nm cm)) ∧ (listed.getD 1 false = true → x62 = (.pointer (some ⟨bb, 3, none⟩))) ∧ (listed.getD 2 false = true → x63 = (.int .i64 (l : Int))) ∧ (listed.getD 3 false = true → x64 = (.slice (some ⟨b, ro, none⟩) nr cr)) ∧ (listed.getD 4 false = true → x65 = (.pointer (some ⟨bb, 1, none⟩))) ∧ (listed.getD 5 false = true → x66 = (.int .i64 (r : Int))) ∧ (listed.getD 6 false = true → x67 = (.slice (some ⟨b, ro, none⟩) nr cr)) ∧ (listed.getD 7 false = true → x68 = (.pointer (some ⟨bb, 1, none⟩))) ∧ (listed.getD 8 false = true → x69 = (.int .i64 (r : Int))) ∧ (listed.getD 9 false = true → x70 = (.pointer (some ⟨b, ro + r, none⟩))) ∧ (listed.getD 10 false = true → x71 = (.int .i64 vrr)) ∧ (listed.getD 11 false = true → x72 = (.slice (some ⟨m, mo, none⟩) nm cm)) ∧ (listed.getD 12 false = true → x73 = (.pointer (some ⟨bb, 3, none⟩))) ∧ (listed.getD 13 false = true → x74 = (.int .i64 (l : Int))) ∧ (listed.getD 14 false = true → x75 = (.pointer (some ⟨m, mo + l, none⟩))) ∧ (listed.getD 15 false = true → x76 = (.int .i64 vml)) ∧ (listed.getD 16 false = true → x77 = (.pointer (some ⟨m, mo + l, none⟩)))) (by kernel_rfl) (by kernel_rfl) ?i0 ?istep ?iend
 case i0 => exact ⟨_, _, _, _, _, _, _, _, _, _, _, _, _, _, _, _, _, by (try simp only [sP]) <;> rfl, ⟨Two.of_drew (Two.of_below B1 b m), C1, D1⟩, fun _ => D2, fun h => (not_rep h).elim, fun h => (not_rep h).elim, fun h => (not_rep h).elim, fun h => (not_rep h).elim, fun h => (not_rep h).elim, fun h => (not_rep h).elim, fun h => (not_rep h).elim, fun h => (not_rep h).elim, fun h => (not_rep h).elim, fun h => (not_rep h).elim, fun h => (not_rep h).elim, fun h => (not_rep h).elim, fun h => (not_rep h).elim, fun h => (not_rep h).elim, fun h => (not_rep h).elim, fun h => (not_rep h).elim, fun h => (not_rep h).elim, fun h => (not_rep h).elim⟩
 case istep =>
  rintro i listed a' w' hi hr' ⟨x61, x62, x63, x64, x65, x66, x67, x68, x69, x70, x71, x72, x73, x74, x75, x76, x77, rfl, HW, HN, HY, d0, d1, d2, d3, d4, d5, d6, d7, d8, d9, d10, d11, d12, d13, d14, d15, d16⟩
  obtain ⟨hun, oj, hoj, hwt⟩ := mem_ready.1 hr'
  simp only [sP]
  have hcase : i = 0 ∨ i = 1 ∨ i = 2 ∨ i = 3 ∨ i = 4 ∨ i = 5 ∨ i = 6 ∨ i = 7 ∨ i = 8 ∨ i = 9 ∨ i = 10 ∨ i = 11 ∨ i = 12 ∨ i = 13 ∨ i = 14 ∨ i = 15 ∨ i = 16 ∨ i = 17 := by omega
  rcases hcase with rfl | rfl | rfl | rfl | rfl | rfl | rfl | rfl | rfl | rfl | rfl | rfl | rfl | rfl | rfl | rfl | rfl | rfl
  · have hoj2 := hoj
    obtain rfl := oI hoj
    refine wpOp_value hoj2 rfl (v := (.slice (some ⟨m, mo, none⟩) nm cm)) (w' := w') (by first | rfl | (go_simp; done) | (simp [go_sem]; done) | (simp [execOp, go_sem]; done) | (simp [execOp, go_sem]; exact wrapEqD _)) ?_
    exact ⟨(.slice (some ⟨m, mo, none⟩) nm cm), x62, x63, x64, x65, x66, x67, x68, x69, x70, x71, x72, x73, x74, x75, x76, x77, by (try simp only [sP]) <;> rfl, HW, fun h => HN (keepG (by decide) h), fun h => (by have hy := HY (keepG (by decide) h); exact ⟨hy.1, keepT hy.2.1, keepT hy.2.2⟩), fun _ => rfl, d1 ∘ kq, d2 ∘ kq, d3 ∘ kq, d4 ∘ kq, d5 ∘ kq, d6 ∘ kq, d7 ∘ kq, d8 ∘ kq, d9 ∘ kq, d10 ∘ kq, d11 ∘ kq, d12 ∘ kq, d13 ∘ kq, d14 ∘ kq, d15 ∘ kq, d16 ∘ kq⟩
  · have hoj2 := hoj
    obtain rfl := oI hoj
    refine wpOp_value hoj2 rfl (v := (.pointer (some ⟨bb, 3, none⟩))) (w' := w') (by first | rfl | (go_simp; done) | (simp [go_sem]; done) | (simp [execOp, go_sem]; done) | (simp [execOp, go_sem]; exact wrapEqD _)) ?_
    exact ⟨x61, (.pointer (some ⟨bb, 3, none⟩)), x63, x64, x65, x66, x67, x68, x69, x70, x71, x72, x73, x74, x75, x76, x77, by (try simp only [sP]) <;> rfl, HW, fun h => HN (keepG (by decide) h), fun h => (by have hy := HY (keepG (by decide) h); exact ⟨hy.1, keepT hy.2.1, keepT hy.2.2⟩), d0 ∘ kq, fun _ => rfl, d2 ∘ kq, d3 ∘ kq, d4 ∘ kq, d5 ∘ kq, d6 ∘ kq, d7 ∘ kq, d8 ∘ kq, d9 ∘ kq, d10 ∘ kq, d11 ∘ kq, d12 ∘ kq, d13 ∘ kq, d14 ∘ kq, d15 ∘ kq, d16 ∘ kq⟩
  · have hoj2 := hoj
    obtain rfl := oI hoj
    have e1 := d1 (hwt ⟨1, .data⟩ (by simp) rfl)
    subst e1
    refine wpOp_cell hoj2 rfl 3 _ rfl rfl (v := (.int .i64 (l : Int))) (ld3' w' ((IsS.cell HW.out.2.1 3).trans rfl)) ?_
    exact ⟨x61, (.pointer (some ⟨bb, 3, none⟩)), (.int .i64 (l : Int)), x64, x65, x66, x67, x68, x69, x70, x71, x72, x73, x74, x75, x76, x77, by (try simp only [sP]) <;> rfl, HW, fun h => HN (keepG (by decide) h), fun h => (by have hy := HY (keepG (by decide) h); exact ⟨hy.1, keepT hy.2.1, keepT hy.2.2⟩), d0 ∘ kq, fun _ => rfl, fun _ => rfl, d3 ∘ kq, d4 ∘ kq, d5 ∘ kq, d6 ∘ kq, d7 ∘ kq, d8 ∘ kq, d9 ∘ kq, d10 ∘ kq, d11 ∘ kq, d12 ∘ kq, d13 ∘ kq, d14 ∘ kq, d15 ∘ kq, d16 ∘ kq⟩
  · have hoj2 := hoj
    obtain rfl := oI hoj
    refine wpOp_value hoj2 rfl (v := (.slice (some ⟨b, ro, none⟩) nr cr)) (w' := w') (by first | rfl | (go_simp; done) | (simp [go_sem]; done) | (simp [execOp, go_sem]; done) | (simp [execOp, go_sem]; exact wrapEqD _)) ?_
    exact ⟨x61, x62, x63, (.slice (some ⟨b, ro, none⟩) nr cr), x65, x66, x67, x68, x69, x70, x71, x72, x73, x74, x75, x76, x77, by (try simp only [sP]) <;> rfl, HW, fun h => HN (keepG (by decide) h), fun h => (by have hy := HY (keepG (by decide) h); exact ⟨hy.1, keepT hy.2.1, keepT hy.2.2⟩), d0 ∘ kq, d1 ∘ kq, d2 ∘ kq, fun _ => rfl, d4 ∘ kq, d5 ∘ kq, d6 ∘ kq, d7 ∘ kq, d8 ∘ kq, d9 ∘ kq, d10 ∘ kq, d11 ∘ kq, d12 ∘ kq, d13 ∘ kq, d14 ∘ kq, d15 ∘ kq, d16 ∘ kq⟩
  · have hoj2 := hoj
    obtain rfl := oI hoj
    refine wpOp_value hoj2 rfl (v := (.pointer (some ⟨bb, 1, none⟩))) (w' := w') (by first | rfl | (go_simp; done) | (simp [go_sem]; done) | (simp [execOp, go_sem]; done) | (simp [execOp, go_sem]; exact wrapEqD _)) ?_
    exact ⟨x61, x62, x63, x64, (.pointer (some ⟨bb, 1, none⟩)), x66, x67, x68, x69, x70, x71, x72, x73, x74, x75, x76, x77, by (try simp only [sP]) <;> rfl, HW, fun h => HN (keepG (by decide) h), fun h => (by have hy := HY (keepG (by decide) h); exact ⟨hy.1, keepT hy.2.1, keepT hy.2.2⟩), d0 ∘ kq, d1 ∘ kq, d2 ∘ kq, d3 ∘ kq, fun _ => rfl, d5 ∘ kq, d6 ∘ kq, d7 ∘ kq, d8 ∘ kq, d9 ∘ kq, d10 ∘ kq, d11 ∘ kq, d12 ∘ kq, d13 ∘ kq, d14 ∘ kq, d15 ∘ kq, d16 ∘ kq⟩
  · have hoj2 := hoj
    obtain rfl := oI hoj
    have e4 := d4 (hwt ⟨4, .data⟩ (by simp) rfl)
    subst e4
    refine wpOp_cell hoj2 rfl 3 _ rfl rfl (v := (.int .i64 (r : Int))) (ld3' w' ((IsS.cell HW.out.2.1 1).trans rfl)) ?_
    exact ⟨x61, x62, x63, x64, (.pointer (some ⟨bb, 1, none⟩)), (.int .i64 (r : Int)), x67, x68, x69, x70, x71, x72, x73, x74, x75, x76, x77, by (try simp only [sP]) <;> rfl, HW, fun h => HN (keepG (by decide) h), fun h => (by have hy := HY (keepG (by decide) h); exact ⟨hy.1, keepT hy.2.1, keepT hy.2.2⟩), d0 ∘ kq, d1 ∘ kq, d2 ∘ kq, d3 ∘ kq, fun _ => rfl, fun _ => rfl, d6 ∘ kq, d7 ∘ kq, d8 ∘ kq, d9 ∘ kq, d10 ∘ kq, d11 ∘ kq, d12 ∘ kq, d13 ∘ kq, d14 ∘ kq, d15 ∘ kq, d16 ∘ kq⟩
  · have hoj2 := hoj
    obtain rfl := oI hoj
    refine wpOp_value hoj2 rfl (v := (.slice (some ⟨b, ro, none⟩) nr cr)) (w' := w') (by first | rfl | (go_simp; done) | (simp [go_sem]; done) | (simp [execOp, go_sem]; done) | (simp [execOp, go_sem]; exact wrapEqD _)) ?_
    exact ⟨x61, x62, x63, x64, x65, x66, (.slice (some ⟨b, ro, none⟩) nr cr), x68, x69, x70, x71, x72, x73, x74, x75, x76, x77, by (try simp only [sP]) <;> rfl, HW, fun h => HN (keepG (by decide) h), fun h => (by have hy := HY (keepG (by decide) h); exact ⟨hy.1, keepT hy.2.1, keepT hy.2.2⟩), d0 ∘ kq, d1 ∘ kq, d2 ∘ kq, d3 ∘ kq, d4 ∘ kq, d5 ∘ kq, fun _ => rfl, d7 ∘ kq, d8 ∘ kq, d9 ∘ kq, d10 ∘ kq, d11 ∘ kq, d12 ∘ kq, d13 ∘ kq, d14 ∘ kq, d15 ∘ kq, d16 ∘ kq⟩
  · have hoj2 := hoj
    obtain rfl := oI hoj
    refine wpOp_value hoj2 rfl (v := (.pointer (some ⟨bb, 1, none⟩))) (w' := w') (by first | rfl | (go_simp; done) | (simp [go_sem]; done) | (simp [execOp, go_sem]; done) | (simp [execOp, go_sem]; exact wrapEqD _)) ?_
    exact ⟨x61, x62, x63, x64, x65, x66, x67, (.pointer (some ⟨bb, 1, none⟩)), x69, x70, x71, x72, x73, x74, x75, x76, x77, by (try simp only [sP]) <;> rfl, HW, fun h => HN (keepG (by decide) h), fun h => (by have hy := HY (keepG (by decide) h); exact ⟨hy.1, keepT hy.2.1, keepT hy.2.2⟩), d0 ∘ kq, d1 ∘ kq, d2 ∘ kq, d3 ∘ kq, d4 ∘ kq, d5 ∘ kq, d6 ∘ kq, fun _ => rfl, d8 ∘ kq, d9 ∘ kq, d10 ∘ kq, d11 ∘ kq, d12 ∘ kq, d13 ∘ kq, d14 ∘ kq, d15 ∘ kq, d16 ∘ kq⟩
  · have hoj2 := hoj
    obtain rfl := oI hoj
    have e7 := d7 (hwt ⟨7, .data⟩ (by simp) rfl)
    subst e7
    refine wpOp_cell hoj2 rfl 3 _ rfl rfl (v := (.int .i64 (r : Int))) (ld3' w' ((IsS.cell HW.out.2.1 1).trans rfl)) ?_
    exact ⟨x61, x62, x63, x64, x65, x66, x67, (.pointer (some ⟨bb, 1, none⟩)), (.int .i64 (r : Int)), x70, x71, x72, x73, x74, x75, x76, x77, by (try simp only [sP]) <;> rfl, HW, fun h => HN (keepG (by decide) h), fun h => (by have hy := HY (keepG (by decide) h); exact ⟨hy.1, keepT hy.2.1, keepT hy.2.2⟩), d0 ∘ kq, d1 ∘ kq, d2 ∘ kq, d3 ∘ kq, d4 ∘ kq, d5 ∘ kq, d6 ∘ kq, fun _ => rfl, fun _ => rfl, d9 ∘ kq, d10 ∘ kq, d11 ∘ kq, d12 ∘ kq, d13 ∘ kq, d14 ∘ kq, d15 ∘ kq, d16 ∘ kq⟩
  · have hoj2 := hoj
    obtain rfl := oI hoj
    have e6 := d6 (hwt ⟨6, .data⟩ (by simp) rfl)
    have e8 := d8 (hwt ⟨8, .data⟩ (by simp) rfl)
    subst e6
    subst e8
    refine wpOp_value hoj2 rfl (v := (.pointer (some ⟨b, ro + r, none⟩))) (w' := w') (by first | rfl | (go_simp; done) | (simp [go_sem]; done) | (simp [execOp, go_sem]; done) | (simp [execOp, go_sem]; exact wrapEqD _)) ?_
    exact ⟨x61, x62, x63, x64, x65, x66, (.slice (some ⟨b, ro, none⟩) nr cr), x68, (.int .i64 (r : Int)), (.pointer (some ⟨b, ro + r, none⟩)), x71, x72, x73, x74, x75, x76, x77, by (try simp only [sP]) <;> rfl, HW, fun h => HN (keepG (by decide) h), fun h => (by have hy := HY (keepG (by decide) h); exact ⟨hy.1, keepT hy.2.1, keepT hy.2.2⟩), d0 ∘ kq, d1 ∘ kq, d2 ∘ kq, d3 ∘ kq, d4 ∘ kq, d5 ∘ kq, fun _ => rfl, d7 ∘ kq, fun _ => rfl, fun _ => rfl, d10 ∘ kq, d11 ∘ kq, d12 ∘ kq, d13 ∘ kq, d14 ∘ kq, d15 ∘ kq, d16 ∘ kq⟩
  · have hoj2 := hoj
    obtain rfl := oI hoj
    have e9 := d9 (hwt ⟨9, .data⟩ (by simp) rfl)
    subst e9
    refine wpOp_cell hoj2 rfl 2 _ rfl rfl (v := (.int .i64 vrr)) (ld2 w' ((IsS.cell HW.out.2.2 _).trans Hrr.out)) ?_
    exact ⟨x61, x62, x63, x64, x65, x66, x67, x68, x69, (.pointer (some ⟨b, ro + r, none⟩)), (.int .i64 vrr), x72, x73, x74, x75, x76, x77, by (try simp only [sP]) <;> rfl, HW, fun h => HN (keepG (by decide) h), fun h => (by have hy := HY (keepG (by decide) h); exact ⟨hy.1, keepT hy.2.1, keepT hy.2.2⟩), d0 ∘ kq, d1 ∘ kq, d2 ∘ kq, d3 ∘ kq, d4 ∘ kq, d5 ∘ kq, d6 ∘ kq, d7 ∘ kq, d8 ∘ kq, fun _ => rfl, fun _ => rfl, d11 ∘ kq, d12 ∘ kq, d13 ∘ kq, d14 ∘ kq, d15 ∘ kq, d16 ∘ kq⟩
  · have hoj2 := hoj
    obtain rfl := oI hoj
    refine wpOp_value hoj2 rfl (v := (.slice (some ⟨m, mo, none⟩) nm cm)) (w' := w') (by first | rfl | (go_simp; done) | (simp [go_sem]; done) | (simp [execOp, go_sem]; done) | (simp [execOp, go_sem]; exact wrapEqD _)) ?_
    exact ⟨x61, x62, x63, x64, x65, x66, x67, x68, x69, x70, x71, (.slice (some ⟨m, mo, none⟩) nm cm), x73, x74, x75, x76, x77, by (try simp only [sP]) <;> rfl, HW, fun h => HN (keepG (by decide) h), fun h => (by have hy := HY (keepG (by decide) h); exact ⟨hy.1, keepT hy.2.1, keepT hy.2.2⟩), d0 ∘ kq, d1 ∘ kq, d2 ∘ kq, d3 ∘ kq, d4 ∘ kq, d5 ∘ kq, d6 ∘ kq, d7 ∘ kq, d8 ∘ kq, d9 ∘ kq, d10 ∘ kq, fun _ => rfl, d12 ∘ kq, d13 ∘ kq, d14 ∘ kq, d15 ∘ kq, d16 ∘ kq⟩
  · have hoj2 := hoj
    obtain rfl := oI hoj
    refine wpOp_value hoj2 rfl (v := (.pointer (some ⟨bb, 3, none⟩))) (w' := w') (by first | rfl | (go_simp; done) | (simp [go_sem]; done) | (simp [execOp, go_sem]; done) | (simp [execOp, go_sem]; exact wrapEqD _)) ?_
    exact ⟨x61, x62, x63, x64, x65, x66, x67, x68, x69, x70, x71, x72, (.pointer (some ⟨bb, 3, none⟩)), x74, x75, x76, x77, by (try simp only [sP]) <;> rfl, HW, fun h => HN (keepG (by decide) h), fun h => (by have hy := HY (keepG (by decide) h); exact ⟨hy.1, keepT hy.2.1, keepT hy.2.2⟩), d0 ∘ kq, d1 ∘ kq, d2 ∘ kq, d3 ∘ kq, d4 ∘ kq, d5 ∘ kq, d6 ∘ kq, d7 ∘ kq, d8 ∘ kq, d9 ∘ kq, d10 ∘ kq, d11 ∘ kq, fun _ => rfl, d13 ∘ kq, d14 ∘ kq, d15 ∘ kq, d16 ∘ kq⟩
  · have hoj2 := hoj
    obtain rfl := oI hoj
    have e12 := d12 (hwt ⟨12, .data⟩ (by simp) rfl)
    subst e12
    refine wpOp_cell hoj2 rfl 3 _ rfl rfl (v := (.int .i64 (l : Int))) (ld3' w' ((IsS.cell HW.out.2.1 3).trans rfl)) ?_
    exact ⟨x61, x62, x63, x64, x65, x66, x67, x68, x69, x70, x71, x72, (.pointer (some ⟨bb, 3, none⟩)), (.int .i64 (l : Int)), x75, x76, x77, by (try simp only [sP]) <;> rfl, HW, fun h => HN (keepG (by decide) h), fun h => (by have hy := HY (keepG (by decide) h); exact ⟨hy.1, keepT hy.2.1, keepT hy.2.2⟩), d0 ∘ kq, d1 ∘ kq, d2 ∘ kq, d3 ∘ kq, d4 ∘ kq, d5 ∘ kq, d6 ∘ kq, d7 ∘ kq, d8 ∘ kq, d9 ∘ kq, d10 ∘ kq, d11 ∘ kq, fun _ => rfl, fun _ => rfl, d14 ∘ kq, d15 ∘ kq, d16 ∘ kq⟩
  · have hoj2 := hoj
    obtain rfl := oI hoj
    have e11 := d11 (hwt ⟨11, .data⟩ (by simp) rfl)
    have e13 := d13 (hwt ⟨13, .data⟩ (by simp) rfl)
    subst e11
    subst e13
    refine wpOp_value hoj2 rfl (v := (.pointer (some ⟨m, mo + l, none⟩))) (w' := w') (by first | rfl | (go_simp; done) | (simp [go_sem]; done) | (simp [execOp, go_sem]; done) | (simp [execOp, go_sem]; exact wrapEqD _)) ?_
    exact ⟨x61, x62, x63, x64, x65, x66, x67, x68, x69, x70, x71, (.slice (some ⟨m, mo, none⟩) nm cm), x73, (.int .i64 (l : Int)), (.pointer (some ⟨m, mo + l, none⟩)), x76, x77, by (try simp only [sP]) <;> rfl, HW, fun h => HN (keepG (by decide) h), fun h => (by have hy := HY (keepG (by decide) h); exact ⟨hy.1, keepT hy.2.1, keepT hy.2.2⟩), d0 ∘ kq, d1 ∘ kq, d2 ∘ kq, d3 ∘ kq, d4 ∘ kq, d5 ∘ kq, d6 ∘ kq, d7 ∘ kq, d8 ∘ kq, d9 ∘ kq, d10 ∘ kq, fun _ => rfl, d12 ∘ kq, fun _ => rfl, fun _ => rfl, d15 ∘ kq, d16 ∘ kq⟩
  · have hoj2 := hoj
    obtain rfl := oI hoj
    have e14 := d14 (hwt ⟨14, .data⟩ (by simp) rfl)
    subst e14
    have hno : listed.getD 17 false = false := (by cases hq : listed.getD 17 false with | false => rfl | true => exact absurd ((HY hq).2.2) (by rw [getD_both hun]; simp))
    refine wpOp_cell hoj2 rfl 2 _ rfl rfl (v := (.int .i64 vml)) (ld2 w' ((IsS.cell (HN hno) _).trans Hml.out)) ?_
    exact ⟨x61, x62, x63, x64, x65, x66, x67, x68, x69, x70, x71, x72, x73, x74, (.pointer (some ⟨m, mo + l, none⟩)), (.int .i64 vml), x77, by (try simp only [sP]) <;> rfl, HW, fun h => HN (keepG (by decide) h), fun h => (by have hy := HY (keepG (by decide) h); exact ⟨hy.1, keepT hy.2.1, keepT hy.2.2⟩), d0 ∘ kq, d1 ∘ kq, d2 ∘ kq, d3 ∘ kq, d4 ∘ kq, d5 ∘ kq, d6 ∘ kq, d7 ∘ kq, d8 ∘ kq, d9 ∘ kq, d10 ∘ kq, d11 ∘ kq, d12 ∘ kq, d13 ∘ kq, fun _ => rfl, fun _ => rfl, d16 ∘ kq⟩
  · have hoj2 := hoj
    obtain rfl := oI hoj
    have e0 := d0 (hwt ⟨0, .data⟩ (by simp) rfl)
    have e2 := d2 (hwt ⟨2, .data⟩ (by simp) rfl)
    subst e0
    subst e2
    refine wpOp_value hoj2 rfl (v := (.pointer (some ⟨m, mo + l, none⟩))) (w' := w') (by first | rfl | (go_simp; done) | (simp [go_sem]; done) | (simp [execOp, go_sem]; done) | (simp [execOp, go_sem]; exact wrapEqD _)) ?_
    exact ⟨(.slice (some ⟨m, mo, none⟩) nm cm), x62, (.int .i64 (l : Int)), x64, x65, x66, x67, x68, x69, x70, x71, x72, x73, x74, x75, x76, (.pointer (some ⟨m, mo + l, none⟩)), by (try simp only [sP]) <;> rfl, HW, fun h => HN (keepG (by decide) h), fun h => (by have hy := HY (keepG (by decide) h); exact ⟨hy.1, keepT hy.2.1, keepT hy.2.2⟩), fun _ => rfl, d1 ∘ kq, fun _ => rfl, d3 ∘ kq, d4 ∘ kq, d5 ∘ kq, d6 ∘ kq, d7 ∘ kq, d8 ∘ kq, d9 ∘ kq, d10 ∘ kq, d11 ∘ kq, d12 ∘ kq, d13 ∘ kq, d14 ∘ kq, d15 ∘ kq, fun _ => rfl⟩
  · have hoj2 := hoj
    obtain rfl := oI hoj
    have e16 := d16 (hwt ⟨16, .data⟩ (by simp) rfl)
    have e10 := d10 (hwt ⟨10, .data⟩ (by simp) rfl)
    subst e16
    subst e10
    have hno : listed.getD 17 false = false := getD_both hun
    refine wpOp_store hoj2 rfl 2 _ _ rfl rfl (.int .i64 vrr) rfl (HN hno) hkl infoI2 rfl ?_
    intro V U E
    exact ⟨x61, x62, x63, x64, x65, x66, x67, x68, x69, x70, (.int .i64 vrr), x72, x73, x74, x75, x76, (.pointer (some ⟨m, mo + l, none⟩)), by (try simp only [sP]) <;> rfl, ⟨HW.out.1.trans (Two.of_updR U), HW.out.2.1.upd U nbm, HW.out.2.2.upd U hbm⟩, fun h => (by rw [nowT (getD_in' hoj2 hun)] at h; cases h), fun _ => ⟨E, keepT (hwt ⟨10, .phase⟩ (by simp) rfl), keepT (hwt ⟨15, .phase⟩ (by simp) rfl)⟩, d0 ∘ kq, d1 ∘ kq, d2 ∘ kq, d3 ∘ kq, d4 ∘ kq, d5 ∘ kq, d6 ∘ kq, d7 ∘ kq, d8 ∘ kq, d9 ∘ kq, fun _ => rfl, d11 ∘ kq, d12 ∘ kq, d13 ∘ kq, d14 ∘ kq, d15 ∘ kq, fun _ => rfl⟩
 case iend =>
  rintro a' w' ⟨x61, x62, x63, x64, x65, x66, x67, x68, x69, x70, x71, x72, x73, x74, x75, x76, x77, rfl, HW, HN, HY, d0, d1, d2, d3, d4, d5, d6, d7, d8, d9, d10, d11, d12, d13, d14, d15, d16⟩
  replace d0 := d0 rfl
  replace d1 := d1 rfl
  replace d2 := d2 rfl
  replace d3 := d3 rfl
  replace d4 := d4 rfl
  replace d5 := d5 rfl
  replace d6 := d6 rfl
  replace d7 := d7 rfl
  replace d8 := d8 rfl
  replace d9 := d9 rfl
  replace d10 := d10 rfl
  replace d11 := d11 rfl
  replace d12 := d12 rfl
  replace d13 := d13 rfl
  replace d14 := d14 rfl
  replace d15 := d15 rfl
  replace d16 := d16 rfl
  have E := (HY rfl).1
  have T := HW.out.1
  have D := HW.out.2.2
  clear HN HY HW
  subst d0 d1 d2 d3 d4 d5 d6 d7 d8 d9 d10 d11 d12 d13 d14 d15 d16
  simp only [sP]
  simp only [List.drop_succ_cons, List.drop_zero]
  go_wp2_with (refine wpList_store1 rfl 2 _ _ rfl rfl (.int .i64 vml) rfl D hkr infoI2 rfl ?_; intro V1 U1 E1; have E2 := E.upd U1 hbm.symm; have T1 := T.trans (Two.of_updL U1); clear U1)
  exact ⟨rfl, .tuple #[], (by simp [results, Try.results108, go_sem]), rfl, E1, E2, T1⟩
set_option maxRecDepth 100000 in
set_option maxHeartbeats 8000000 in
theorem sdo_xadd (src imm vrr vml : Int) (r l nr cr nm cm t u b m ro mo : Nat) (cs ds : List Value) (hr : r < nr) (hl : l < nm) (hrr : cs[ro + r]? = some (.int .i64 vrr)) (hml : ds[mo + l]? = some (.int .i64 vml)) (hn : ro + nr ≤ cs.length) (hm : mo + nm ≤ ds.length) (hbm : b ≠ m) (hnr : nr ≤ 1048576) (hnm : nm ≤ 1048576) (w : World) (hrc : IsS w b t cs) (hmc : IsS w m u ds) :
    Calls Try.prog 108 #[.agg #[.int .i64 9, .int .i64 (r : Int), .int .i64 src, .int .i64 (l : Int), .int .i64 imm], (.slice (some ⟨b, ro, none⟩) nr cr), (.slice (some ⟨m, mo, none⟩) nm cm)] w fun en w' => en = .returned (.tuple #[]) ∧ IsS w' b t (cs.set (ro + r) (.int .i64 vml)) ∧ IsS w' m u (ds.set (mo + l) (.int .i64 (wrap64 (vml + vrr)))) ∧ Two w w' b m := by
 have t1 : True := trivial
 have HrC : Hid (IsS w b t cs) := hrc
 have HmC : Hid (IsS w m u ds) := hmc
 have hblr := hrc.lt
 have hblm := hmc.lt
 have hri : (r : Int) < nr := by omega
 have hkr : ro + r < cs.length := by omega
 have hli : (l : Int) < nm := by omega
 have hkl : mo + l < ds.length := by omega
 have zml : w.cell? ⟨m, mo + l, none⟩ = some (.int .i64 vml) := (hmc.cell _).trans hml
 have Hrr : Hid (cs[ro + r]? = some (.int .i64 vrr)) := hrr
 have Hml : Hid (ds[mo + l]? = some (.int .i64 vml)) := hml
 clear hrc hmc hn hm hrr hml
 go_enter Try.func108, Try.ntmps108
 go_wp2_with (first
  | (clear t1; refine wpList_boxS rfl 63 _ rfl [.int .i64 9, .int .i64 (r : Int), .int .i64 src, .int .i64 (l : Int), .int .i64 imm] rfl ?_; intro W1 bb F1 C1; have B1 : Below w.heap.size w W1 := F1.trans (Below.refl _ w) (Nat.le_refl _); have D1 := HrC.out.grown B1; have D2 := HmC.out.grown B1; have yml : W1.cell? ⟨m, mo + l, none⟩ = some (.int .i64 vml) := (by rw [B1.cell (p := ⟨m, mo + l, none⟩) hblm]; exact zml); have nbb : bb ≠ b := (by have := F1.at'; omega); have nbm : bb ≠ m := (by have := F1.at'; omega); obtain ⟨x0, x1, x2, x3, x4⟩ := five C1; clear F1))
 clear x0 x1 x2 x3 x4 yml zml
 refine region_invA 16 (fun a0 listed a' w' => ∃ x114 x115 x116 x117 x118 x119 x120 x121 x122 x123 x124 x125 x126 x127 x128 : Value, a' = (((((((((((((((a0.put (some 114) x114).put (some 115) x115).put (some 116) x116).put (some 117) x117).put (some 118) x118).put (some 119) x119).put (some 120) x120).put (some 121) x121).put (some 122) x122).put (some 123) x123).put (some 124) x124).put (some 125) x125).put (some 126) x126).put (some 127) x127).put (some 128) x128) ∧ Hid (Two w w' b m ∧ IsS w' bb 63 [.int .i64 9, .int .i64 (r : Int), .int .i64 src, .int .i64 (l : Int), .int .i64 imm] ∧ IsS w' b t cs) ∧ (listed.getD 15 false = false → IsS w' m u ds) ∧ (listed.getD 15 false = true → IsS w' m u (ds.set (mo + l) (.int .i64 (wrap64 (vml + vrr)))) ∧ listed.getD 11 false = true) ∧ (listed.getD 0 false = true → x114 = (.slice (some ⟨m, mo, none⟩) nm cm)) ∧ (listed.getD 1 false = true → x115 = (.pointer (some ⟨bb, 3, none⟩))) ∧ (listed.getD 2 false = true → x116 = (.int .i64 (l : Int))) ∧ (listed.getD 3 false = true → x117 = (.slice (some ⟨b, ro, none⟩) nr cr)) ∧ (listed.getD 4 false = true → x118 = (.pointer (some ⟨bb, 1, none⟩))) ∧ (listed.getD 5 false = true → x119 = (.int .i64 (r : Int))) ∧ (listed.getD 6 false = true → x120 = (.int .i64 vml)) ∧ (listed.getD 7 false = true → x121 = (.slice (some ⟨b, ro, none⟩) nr cr)) ∧ (listed.getD 8 false = true → x122 = (.pointer (some ⟨bb, 1, none⟩))) ∧ (listed.getD 9 false = true → x123 = (.int .i64 (r : Int))) ∧ (listed.getD 10 false = true → x124 = (.pointer (some ⟨b, ro + r, none⟩))) ∧ (listed.getD 11 false = true → x125 = (.int .i64 vrr)) ∧ (listed.getD 12 false = true → x126 = (.int .i64 (wrap64 (vml + vrr)))) ∧ (listed.getD 13 false = true → x127 = (.int .i64 vml)) ∧ (listed.getD 14 false = true → x128 = (.pointer (some ⟨m, mo + l, none⟩)))) (by kernel_rfl) (by kernel_rfl) ?i0 ?istep ?iend
 case i0 => exact ⟨_, _, _, _, _, _, _, _, _, _, _, _, _, _, _, by (try simp only [sP]) <;> rfl, ⟨Two.of_drew (Two.of_below B1 b m), C1, D1⟩, fun _ => D2, fun h => (not_rep h).elim, fun h => (not_rep h).elim, fun h => (not_rep h).elim, fun h => (not_rep h).elim, fun h => (not_rep h).elim, fun h => (not_rep h).elim, fun h => (not_rep h).elim, fun h => (not_rep h).elim, fun h => (not_rep h).elim, fun h => (not_rep h).elim, fun h => (not_rep h).elim, fun h => (not_rep h).elim, fun h => (not_rep h).elim, fun h => (not_rep h).elim, fun h => (not_rep h).elim, fun h => (not_rep h).elim⟩
 case istep =>
  rintro i listed a' w' hi hr' ⟨x114, x115, x116, x117, x118, x119, x120, x121, x122, x123, x124, x125, x126, x127, x128, rfl, HW, HN, HY, d0, d1, d2, d3, d4, d5, d6, d7, d8, d9, d10, d11, d12, d13, d14⟩
  obtain ⟨hun, oj, hoj, hwt⟩ := mem_ready.1 hr'
  simp only [sP]
  have hcase : i = 0 ∨ i = 1 ∨ i = 2 ∨ i = 3 ∨ i = 4 ∨ i = 5 ∨ i = 6 ∨ i = 7 ∨ i = 8 ∨ i = 9 ∨ i = 10 ∨ i = 11 ∨ i = 12 ∨ i = 13 ∨ i = 14 ∨ i = 15 := by omega
  rcases hcase with rfl | rfl | rfl | rfl | rfl | rfl | rfl | rfl | rfl | rfl | rfl | rfl | rfl | rfl | rfl | rfl
  · have hoj2 := hoj
    obtain rfl := oI hoj
    refine wpOp_value hoj2 rfl (v := (.slice (some ⟨m, mo, none⟩) nm cm)) (w' := w') (by first | rfl | (go_simp; done) | (simp [go_sem]; done) | (simp [execOp, go_sem]; done) | (simp [execOp, go_sem]; exact wrapEqD _)) ?_
    exact ⟨(.slice (some ⟨m, mo, none⟩) nm cm), x115, x116, x117, x118, x119, x120, x121, x122, x123, x124, x125, x126, x127, x128, by (try simp only [sP]) <;> rfl, HW, fun h => HN (keepG (by decide) h), fun h => (by have hy := HY (keepG (by decide) h); exact ⟨hy.1, keepT hy.2⟩), fun _ => rfl, d1 ∘ kq, d2 ∘ kq, d3 ∘ kq, d4 ∘ kq, d5 ∘ kq, d6 ∘ kq, d7 ∘ kq, d8 ∘ kq, d9 ∘ kq, d10 ∘ kq, d11 ∘ kq, d12 ∘ kq, d13 ∘ kq, d14 ∘ kq⟩
  · have hoj2 := hoj
    obtain rfl := oI hoj
    refine wpOp_value hoj2 rfl (v := (.pointer (some ⟨bb, 3, none⟩))) (w' := w') (by first | rfl | (go_simp; done) | (simp [go_sem]; done) | (simp [execOp, go_sem]; done) | (simp [execOp, go_sem]; exact wrapEqD _)) ?_
    exact ⟨x114, (.pointer (some ⟨bb, 3, none⟩)), x116, x117, x118, x119, x120, x121, x122, x123, x124, x125, x126, x127, x128, by (try simp only [sP]) <;> rfl, HW, fun h => HN (keepG (by decide) h), fun h => (by have hy := HY (keepG (by decide) h); exact ⟨hy.1, keepT hy.2⟩), d0 ∘ kq, fun _ => rfl, d2 ∘ kq, d3 ∘ kq, d4 ∘ kq, d5 ∘ kq, d6 ∘ kq, d7 ∘ kq, d8 ∘ kq, d9 ∘ kq, d10 ∘ kq, d11 ∘ kq, d12 ∘ kq, d13 ∘ kq, d14 ∘ kq⟩
  · have hoj2 := hoj
    obtain rfl := oI hoj
    have e1 := d1 (hwt ⟨1, .data⟩ (by simp) rfl)
    subst e1
    refine wpOp_cell hoj2 rfl 3 _ rfl rfl (v := (.int .i64 (l : Int))) (ld3' w' ((IsS.cell HW.out.2.1 3).trans rfl)) ?_
    exact ⟨x114, (.pointer (some ⟨bb, 3, none⟩)), (.int .i64 (l : Int)), x117, x118, x119, x120, x121, x122, x123, x124, x125, x126, x127, x128, by (try simp only [sP]) <;> rfl, HW, fun h => HN (keepG (by decide) h), fun h => (by have hy := HY (keepG (by decide) h); exact ⟨hy.1, keepT hy.2⟩), d0 ∘ kq, fun _ => rfl, fun _ => rfl, d3 ∘ kq, d4 ∘ kq, d5 ∘ kq, d6 ∘ kq, d7 ∘ kq, d8 ∘ kq, d9 ∘ kq, d10 ∘ kq, d11 ∘ kq, d12 ∘ kq, d13 ∘ kq, d14 ∘ kq⟩
  · have hoj2 := hoj
    obtain rfl := oI hoj
    refine wpOp_value hoj2 rfl (v := (.slice (some ⟨b, ro, none⟩) nr cr)) (w' := w') (by first | rfl | (go_simp; done) | (simp [go_sem]; done) | (simp [execOp, go_sem]; done) | (simp [execOp, go_sem]; exact wrapEqD _)) ?_
    exact ⟨x114, x115, x116, (.slice (some ⟨b, ro, none⟩) nr cr), x118, x119, x120, x121, x122, x123, x124, x125, x126, x127, x128, by (try simp only [sP]) <;> rfl, HW, fun h => HN (keepG (by decide) h), fun h => (by have hy := HY (keepG (by decide) h); exact ⟨hy.1, keepT hy.2⟩), d0 ∘ kq, d1 ∘ kq, d2 ∘ kq, fun _ => rfl, d4 ∘ kq, d5 ∘ kq, d6 ∘ kq, d7 ∘ kq, d8 ∘ kq, d9 ∘ kq, d10 ∘ kq, d11 ∘ kq, d12 ∘ kq, d13 ∘ kq, d14 ∘ kq⟩
  · have hoj2 := hoj
    obtain rfl := oI hoj
    refine wpOp_value hoj2 rfl (v := (.pointer (some ⟨bb, 1, none⟩))) (w' := w') (by first | rfl | (go_simp; done) | (simp [go_sem]; done) | (simp [execOp, go_sem]; done) | (simp [execOp, go_sem]; exact wrapEqD _)) ?_
    exact ⟨x114, x115, x116, x117, (.pointer (some ⟨bb, 1, none⟩)), x119, x120, x121, x122, x123, x124, x125, x126, x127, x128, by (try simp only [sP]) <;> rfl, HW, fun h => HN (keepG (by decide) h), fun h => (by have hy := HY (keepG (by decide) h); exact ⟨hy.1, keepT hy.2⟩), d0 ∘ kq, d1 ∘ kq, d2 ∘ kq, d3 ∘ kq, fun _ => rfl, d5 ∘ kq, d6 ∘ kq, d7 ∘ kq, d8 ∘ kq, d9 ∘ kq, d10 ∘ kq, d11 ∘ kq, d12 ∘ kq, d13 ∘ kq, d14 ∘ kq⟩
  · have hoj2 := hoj
    obtain rfl := oI hoj
    have e4 := d4 (hwt ⟨4, .data⟩ (by simp) rfl)
    subst e4
    refine wpOp_cell hoj2 rfl 3 _ rfl rfl (v := (.int .i64 (r : Int))) (ld3' w' ((IsS.cell HW.out.2.1 1).trans rfl)) ?_
    exact ⟨x114, x115, x116, x117, (.pointer (some ⟨bb, 1, none⟩)), (.int .i64 (r : Int)), x120, x121, x122, x123, x124, x125, x126, x127, x128, by (try simp only [sP]) <;> rfl, HW, fun h => HN (keepG (by decide) h), fun h => (by have hy := HY (keepG (by decide) h); exact ⟨hy.1, keepT hy.2⟩), d0 ∘ kq, d1 ∘ kq, d2 ∘ kq, d3 ∘ kq, fun _ => rfl, fun _ => rfl, d6 ∘ kq, d7 ∘ kq, d8 ∘ kq, d9 ∘ kq, d10 ∘ kq, d11 ∘ kq, d12 ∘ kq, d13 ∘ kq, d14 ∘ kq⟩
  · have hoj2 := hoj
    obtain rfl := oI hoj
    refine wpOp_value hoj2 rfl (v := (.int .i64 vml)) (w' := w') (by first | rfl | (go_simp; done) | (simp [go_sem]; done) | (simp [execOp, go_sem]; done) | (simp [execOp, go_sem]; exact wrapEqD _)) ?_
    exact ⟨x114, x115, x116, x117, x118, x119, (.int .i64 vml), x121, x122, x123, x124, x125, x126, x127, x128, by (try simp only [sP]) <;> rfl, HW, fun h => HN (keepG (by decide) h), fun h => (by have hy := HY (keepG (by decide) h); exact ⟨hy.1, keepT hy.2⟩), d0 ∘ kq, d1 ∘ kq, d2 ∘ kq, d3 ∘ kq, d4 ∘ kq, d5 ∘ kq, fun _ => rfl, d7 ∘ kq, d8 ∘ kq, d9 ∘ kq, d10 ∘ kq, d11 ∘ kq, d12 ∘ kq, d13 ∘ kq, d14 ∘ kq⟩
  · have hoj2 := hoj
    obtain rfl := oI hoj
    refine wpOp_value hoj2 rfl (v := (.slice (some ⟨b, ro, none⟩) nr cr)) (w' := w') (by first | rfl | (go_simp; done) | (simp [go_sem]; done) | (simp [execOp, go_sem]; done) | (simp [execOp, go_sem]; exact wrapEqD _)) ?_
    exact ⟨x114, x115, x116, x117, x118, x119, x120, (.slice (some ⟨b, ro, none⟩) nr cr), x122, x123, x124, x125, x126, x127, x128, by (try simp only [sP]) <;> rfl, HW, fun h => HN (keepG (by decide) h), fun h => (by have hy := HY (keepG (by decide) h); exact ⟨hy.1, keepT hy.2⟩), d0 ∘ kq, d1 ∘ kq, d2 ∘ kq, d3 ∘ kq, d4 ∘ kq, d5 ∘ kq, d6 ∘ kq, fun _ => rfl, d8 ∘ kq, d9 ∘ kq, d10 ∘ kq, d11 ∘ kq, d12 ∘ kq, d13 ∘ kq, d14 ∘ kq⟩
  · have hoj2 := hoj
    obtain rfl := oI hoj
    refine wpOp_value hoj2 rfl (v := (.pointer (some ⟨bb, 1, none⟩))) (w' := w') (by first | rfl | (go_simp; done) | (simp [go_sem]; done) | (simp [execOp, go_sem]; done) | (simp [execOp, go_sem]; exact wrapEqD _)) ?_
    exact ⟨x114, x115, x116, x117, x118, x119, x120, x121, (.pointer (some ⟨bb, 1, none⟩)), x123, x124, x125, x126, x127, x128, by (try simp only [sP]) <;> rfl, HW, fun h => HN (keepG (by decide) h), fun h => (by have hy := HY (keepG (by decide) h); exact ⟨hy.1, keepT hy.2⟩), d0 ∘ kq, d1 ∘ kq, d2 ∘ kq, d3 ∘ kq, d4 ∘ kq, d5 ∘ kq, d6 ∘ kq, d7 ∘ kq, fun _ => rfl, d9 ∘ kq, d10 ∘ kq, d11 ∘ kq, d12 ∘ kq, d13 ∘ kq, d14 ∘ kq⟩
  · have hoj2 := hoj
    obtain rfl := oI hoj
    have e8 := d8 (hwt ⟨8, .data⟩ (by simp) rfl)
    subst e8
    refine wpOp_cell hoj2 rfl 3 _ rfl rfl (v := (.int .i64 (r : Int))) (ld3' w' ((IsS.cell HW.out.2.1 1).trans rfl)) ?_
    exact ⟨x114, x115, x116, x117, x118, x119, x120, x121, (.pointer (some ⟨bb, 1, none⟩)), (.int .i64 (r : Int)), x124, x125, x126, x127, x128, by (try simp only [sP]) <;> rfl, HW, fun h => HN (keepG (by decide) h), fun h => (by have hy := HY (keepG (by decide) h); exact ⟨hy.1, keepT hy.2⟩), d0 ∘ kq, d1 ∘ kq, d2 ∘ kq, d3 ∘ kq, d4 ∘ kq, d5 ∘ kq, d6 ∘ kq, d7 ∘ kq, fun _ => rfl, fun _ => rfl, d10 ∘ kq, d11 ∘ kq, d12 ∘ kq, d13 ∘ kq, d14 ∘ kq⟩
  · have hoj2 := hoj
    obtain rfl := oI hoj
    have e7 := d7 (hwt ⟨7, .data⟩ (by simp) rfl)
    have e9 := d9 (hwt ⟨9, .data⟩ (by simp) rfl)
    subst e7
    subst e9
    refine wpOp_value hoj2 rfl (v := (.pointer (some ⟨b, ro + r, none⟩))) (w' := w') (by first | rfl | (go_simp; done) | (simp [go_sem]; done) | (simp [execOp, go_sem]; done) | (simp [execOp, go_sem]; exact wrapEqD _)) ?_
    exact ⟨x114, x115, x116, x117, x118, x119, x120, (.slice (some ⟨b, ro, none⟩) nr cr), x122, (.int .i64 (r : Int)), (.pointer (some ⟨b, ro + r, none⟩)), x125, x126, x127, x128, by (try simp only [sP]) <;> rfl, HW, fun h => HN (keepG (by decide) h), fun h => (by have hy := HY (keepG (by decide) h); exact ⟨hy.1, keepT hy.2⟩), d0 ∘ kq, d1 ∘ kq, d2 ∘ kq, d3 ∘ kq, d4 ∘ kq, d5 ∘ kq, d6 ∘ kq, fun _ => rfl, d8 ∘ kq, fun _ => rfl, fun _ => rfl, d11 ∘ kq, d12 ∘ kq, d13 ∘ kq, d14 ∘ kq⟩
  · have hoj2 := hoj
    obtain rfl := oI hoj
    have e10 := d10 (hwt ⟨10, .data⟩ (by simp) rfl)
    subst e10
    refine wpOp_cell hoj2 rfl 2 _ rfl rfl (v := (.int .i64 vrr)) (ld2 w' ((IsS.cell HW.out.2.2 _).trans Hrr.out)) ?_
    exact ⟨x114, x115, x116, x117, x118, x119, x120, x121, x122, x123, (.pointer (some ⟨b, ro + r, none⟩)), (.int .i64 vrr), x126, x127, x128, by (try simp only [sP]) <;> rfl, HW, fun h => HN (keepG (by decide) h), fun h => (by have hy := HY (keepG (by decide) h); exact ⟨hy.1, keepT hy.2⟩), d0 ∘ kq, d1 ∘ kq, d2 ∘ kq, d3 ∘ kq, d4 ∘ kq, d5 ∘ kq, d6 ∘ kq, d7 ∘ kq, d8 ∘ kq, d9 ∘ kq, fun _ => rfl, fun _ => rfl, d12 ∘ kq, d13 ∘ kq, d14 ∘ kq⟩
  · have hoj2 := hoj
    obtain rfl := oI hoj
    have e6 := d6 (hwt ⟨6, .data⟩ (by simp) rfl)
    have e11 := d11 (hwt ⟨11, .data⟩ (by simp) rfl)
    subst e6
    subst e11
    refine wpOp_value hoj2 rfl (v := (.int .i64 (wrap64 (vml + vrr)))) (w' := w') (by first | rfl | (go_simp; done) | (simp [go_sem]; done) | (simp [execOp, go_sem]; done) | (simp [execOp, go_sem]; exact wrapEqD _)) ?_
    exact ⟨x114, x115, x116, x117, x118, x119, (.int .i64 vml), x121, x122, x123, x124, (.int .i64 vrr), (.int .i64 (wrap64 (vml + vrr))), x127, x128, by (try simp only [sP]) <;> rfl, HW, fun h => HN (keepG (by decide) h), fun h => (by have hy := HY (keepG (by decide) h); exact ⟨hy.1, keepT hy.2⟩), d0 ∘ kq, d1 ∘ kq, d2 ∘ kq, d3 ∘ kq, d4 ∘ kq, d5 ∘ kq, fun _ => rfl, d7 ∘ kq, d8 ∘ kq, d9 ∘ kq, d10 ∘ kq, fun _ => rfl, fun _ => rfl, d13 ∘ kq, d14 ∘ kq⟩
  · have hoj2 := hoj
    obtain rfl := oI hoj
    refine wpOp_value hoj2 rfl (v := (.int .i64 vml)) (w' := w') (by first | rfl | (go_simp; done) | (simp [go_sem]; done) | (simp [execOp, go_sem]; done) | (simp [execOp, go_sem]; exact wrapEqD _)) ?_
    exact ⟨x114, x115, x116, x117, x118, x119, x120, x121, x122, x123, x124, x125, x126, (.int .i64 vml), x128, by (try simp only [sP]) <;> rfl, HW, fun h => HN (keepG (by decide) h), fun h => (by have hy := HY (keepG (by decide) h); exact ⟨hy.1, keepT hy.2⟩), d0 ∘ kq, d1 ∘ kq, d2 ∘ kq, d3 ∘ kq, d4 ∘ kq, d5 ∘ kq, d6 ∘ kq, d7 ∘ kq, d8 ∘ kq, d9 ∘ kq, d10 ∘ kq, d11 ∘ kq, d12 ∘ kq, fun _ => rfl, d14 ∘ kq⟩
  · have hoj2 := hoj
    obtain rfl := oI hoj
    have e0 := d0 (hwt ⟨0, .data⟩ (by simp) rfl)
    have e2 := d2 (hwt ⟨2, .data⟩ (by simp) rfl)
    subst e0
    subst e2
    refine wpOp_value hoj2 rfl (v := (.pointer (some ⟨m, mo + l, none⟩))) (w' := w') (by first | rfl | (go_simp; done) | (simp [go_sem]; done) | (simp [execOp, go_sem]; done) | (simp [execOp, go_sem]; exact wrapEqD _)) ?_
    exact ⟨(.slice (some ⟨m, mo, none⟩) nm cm), x115, (.int .i64 (l : Int)), x117, x118, x119, x120, x121, x122, x123, x124, x125, x126, x127, (.pointer (some ⟨m, mo + l, none⟩)), by (try simp only [sP]) <;> rfl, HW, fun h => HN (keepG (by decide) h), fun h => (by have hy := HY (keepG (by decide) h); exact ⟨hy.1, keepT hy.2⟩), fun _ => rfl, d1 ∘ kq, fun _ => rfl, d3 ∘ kq, d4 ∘ kq, d5 ∘ kq, d6 ∘ kq, d7 ∘ kq, d8 ∘ kq, d9 ∘ kq, d10 ∘ kq, d11 ∘ kq, d12 ∘ kq, d13 ∘ kq, fun _ => rfl⟩
  · have hoj2 := hoj
    obtain rfl := oI hoj
    have e14 := d14 (hwt ⟨14, .data⟩ (by simp) rfl)
    have e12 := d12 (hwt ⟨12, .data⟩ (by simp) rfl)
    subst e14
    subst e12
    have hno : listed.getD 15 false = false := getD_both hun
    refine wpOp_store hoj2 rfl 2 _ _ rfl rfl (.int .i64 (wrap64 (vml + vrr))) rfl (HN hno) hkl infoI2 rfl ?_
    intro V U E
    exact ⟨x114, x115, x116, x117, x118, x119, x120, x121, x122, x123, x124, x125, (.int .i64 (wrap64 (vml + vrr))), x127, (.pointer (some ⟨m, mo + l, none⟩)), by (try simp only [sP]) <;> rfl, ⟨HW.out.1.trans (Two.of_updR U), HW.out.2.1.upd U nbm, HW.out.2.2.upd U hbm⟩, fun h => (by rw [nowT (getD_in' hoj2 hun)] at h; cases h), fun _ => ⟨E, keepT (hwt ⟨11, .phase⟩ (by simp) rfl)⟩, d0 ∘ kq, d1 ∘ kq, d2 ∘ kq, d3 ∘ kq, d4 ∘ kq, d5 ∘ kq, d6 ∘ kq, d7 ∘ kq, d8 ∘ kq, d9 ∘ kq, d10 ∘ kq, d11 ∘ kq, fun _ => rfl, d13 ∘ kq, fun _ => rfl⟩
 case iend =>
  rintro a' w' ⟨x114, x115, x116, x117, x118, x119, x120, x121, x122, x123, x124, x125, x126, x127, x128, rfl, HW, HN, HY, d0, d1, d2, d3, d4, d5, d6, d7, d8, d9, d10, d11, d12, d13, d14⟩
  replace d0 := d0 rfl
  replace d1 := d1 rfl
  replace d2 := d2 rfl
  replace d3 := d3 rfl
  replace d4 := d4 rfl
  replace d5 := d5 rfl
  replace d6 := d6 rfl
  replace d7 := d7 rfl
  replace d8 := d8 rfl
  replace d9 := d9 rfl
  replace d10 := d10 rfl
  replace d11 := d11 rfl
  replace d12 := d12 rfl
  replace d13 := d13 rfl
  replace d14 := d14 rfl
  have E := (HY rfl).1
  have T := HW.out.1
  have D := HW.out.2.2
  clear HN HY HW
  subst d0 d1 d2 d3 d4 d5 d6 d7 d8 d9 d10 d11 d12 d13 d14
  simp only [sP]
  simp only [List.drop_succ_cons, List.drop_zero]
  go_wp2_with (refine wpList_store1 rfl 2 _ _ rfl rfl (.int .i64 vml) rfl D hkr infoI2 rfl ?_; intro V1 U1 E1; have E2 := E.upd U1 hbm.symm; have T1 := T.trans (Two.of_updL U1); clear U1)
  exact ⟨rfl, .tuple #[], (by simp [results, Try.results108, go_sem]), rfl, E1, E2, T1⟩
end Go.Proofs.Ytegpnicajlndlaa

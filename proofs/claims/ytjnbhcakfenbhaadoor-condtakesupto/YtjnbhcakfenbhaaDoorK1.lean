/- The reader of tokens: what it looks at (next, isSign, sees), and how it gives up (throw, must). -/
import Derived.Test.YtjnbhcakfenbhaaDoorKS
namespace Go.Proofs.YtjnbhcakfenbhaaDoor
open Go.RowKit Go.Shelf M
set_option linter.unusedSimpArgs false
set_option linter.unusedVariables false

/-- A token as a caller hands it in. -/
structure GT where
  kind : Int
  text : ByteArray
  value : Int
  line : Int
  col : Int
  at' : Int
  fin : Int
def gtL (g : GT) : List Value := [.int .i64 g.kind, .string g.text, .int .i64 g.value, .int .i64 g.line, .int .i64 g.col, .int .i64 g.at', .int .i64 g.fin]
def noGT : GT := ⟨0, ⟨#[]⟩, 0, 0, 0, 0, 0⟩
theorem gt_one (g : GT) : ∀ v ∈ gtL g, v.oneCell' = true := by simp [gtL, Value.oneCell']
theorem ldTk {b o : Nat} {v : Value} (w : World) (h : w.cell? ⟨b, o, none⟩ = some v) : (Instr.loadAt 35 (.pointer (some ⟨b, o, none⟩))).run Tryd.prog w = .ok v w := by simp [go_sem, h]
theorem infoTok : (Tryd.prog.info? 37).map (·.size) = some 7 := by kernel_rfl
/-- Tokens in memory. -/
def Toks (w : World) (a : Option Addr) (gs : List GT) : Prop := ∀ j g, gs[j]? = some g → ∃ b o, a = some ⟨b, o, none⟩ ∧ b < w.heap.size ∧ w.rangeAt b (o + j * 7) (gtL g)
theorem Toks.below {w W : World} {a : Option Addr} {gs : List GT} (h : Toks w a gs) (hB : Below w.heap.size w W) : Toks W a gs := fun j g hg => by
  obtain ⟨b, o, h1, h2, h3⟩ := h j g hg
  refine ⟨b, o, h1, Nat.lt_of_lt_of_le h2 hB.size, fun i v hv => ?_⟩
  rw [hB.cell (p := ⟨b, o + j * 7 + i, none⟩) h2]
  exact h3 i v hv
/-- The reader's own cells. -/
def rdL (a : Option Addr) (n cap : Nat) (k : Nat) (d : Nat) (v : Value) : List Value := [.slice a n cap, .int .i64 (k : Int), .int .i64 (d : Int), v]

set_option maxRecDepth 100000 in
set_option maxHeartbeats 1000000 in
theorem isSign_any (g : GT) (s : ByteArray) (w : World) : Calls Tryd.prog 79 #[.agg (gtL g).toArray, .string s] w fun e w' => e = .returned (.bool (decide (g.kind = 4 ∧ g.text.data.toList = s.data.toList))) ∧ Below w.heap.size w w' := by
  obtain ⟨k, tx, v, a, b, c, d⟩ := g
  dsimp only [gtL]
  obtain ⟨V, hV⟩ : ∃ V, decide (k = 4 ∧ tx.data.toList = s.data.toList) = V := ⟨_, rfl⟩
  rw [hV]
  have HV : Hid (V = decide (k = 4 ∧ tx.data.toList = s.data.toList)) := hV.symm
  clear hV
  by_cases hk : k = 4
  · have hk' : (k == 4) = true := by simp [hk]
    clear hk
    go_enter Tryd.func79, Tryd.ntmps79
    go_wp2_with (first
      | (refine wpList_boxS rfl 37 _ rfl (gtL ⟨k, tx, v, a, b, c, d⟩) rfl ?_; intro W1 b1 F1 N1; have B1 := F1.trans (Below.refl _ w) (Nat.le_refl _); have c0 : W1.cell? ⟨b1, 0, none⟩ = some (.int .i64 k) := N1.cell 0; have c1 : W1.cell? ⟨b1, 1, none⟩ = some (.string tx) := N1.cell 1; clear F1))
    all_goals go_ret
    all_goals refine ⟨ret_bool ?_, B1⟩
    all_goals (rw [HV.out, Bool.eq_iff_iff]; simp at hk'; simp [toL, hk'])
  · have hk' : (k == 4) = false := by simpa using hk
    clear hk
    go_enter Tryd.func79, Tryd.ntmps79
    go_wp2_with (first
      | (refine wpList_boxS rfl 37 _ rfl (gtL ⟨k, tx, v, a, b, c, d⟩) rfl ?_; intro W1 b1 F1 N1; have B1 := F1.trans (Below.refl _ w) (Nat.le_refl _); have c0 : W1.cell? ⟨b1, 0, none⟩ = some (.int .i64 k) := N1.cell 0; have c1 : W1.cell? ⟨b1, 1, none⟩ = some (.string tx) := N1.cell 1; clear F1))
    all_goals go_ret
    all_goals refine ⟨ret_bool ?_, B1⟩
    all_goals (rw [HV.out]; simp at hk'; simp [hk'])

set_option maxRecDepth 100000 in
set_option maxHeartbeats 1000000 in
theorem next_none (a : Option Addr) (n cap k d on : Nat) (v : Value) (hn : n ≤ 1099511627776) (hk : k ≤ n) (ho : n ≤ k + on) (ho2 : on ≤ 4) (br : Nat) (w : World) (hR : IsS w br 71 (rdL a n cap k d v)) :
    Calls Tryd.prog 80 #[.pointer (some ⟨br, 0, none⟩), .int .i64 (on : Int)] w fun e w' => e = .returned (.agg (gtL noGT).toArray) ∧ Below w.heap.size w w' := by
  have hge : (n : Int) - k ≤ on := by omega
  have hwr : IntKind.i64.wrap ((n : Int) - k) = (n : Int) - k := by rw [IntKind.wrap_i64]; omega
  go_enter Tryd.func80, Tryd.ntmps80
  go_wp2_with (first
    | (refine wpList_allocS rfl 37 rfl (gtL noGT) Tryd.zeroValue37 ?_; intro W1 b4 F1 M1; have B1 := F1.trans (Below.refl _ w) (Nat.le_refl _); have R1 := hR.fresh F1; have hb4 : w.heap.size ≤ b4 := Nat.le_of_eq F1.at'.symm; have c0 : W1.cell? ⟨br, 0, none⟩ = some (.slice a n cap) := R1.cell 0; have c1 : W1.cell? ⟨br, 1, none⟩ = some (.int .i64 (k : Int)) := R1.cell 1; clear F1))
  go_quiet (fail)
  have M2 : IsS (W1.drewN nq) b4 37 (gtL noGT) := M1
  have B2 : Below w.heap.size w (W1.drewN nq) := below_drewN B1 _
  clear c0 c1 M1 B1 R1
  generalize W1.drewN nq = W2 at *
  go_wp2_with (first
    | (refine wpList_storeS rfl 37 _ _ rfl rfl (gtL noGT) rfl M2 (by simp [gtL, noGT]) infoTok (gt_one _) ?_; intro W3 U3 M3x; have M3 : IsS W3 b4 37 (gtL noGT) := M3x; have B3 := U3.trans B2 hb4))
  exact ret_S (cs := gtL noGT) rfl rfl rfl M3 _ Tryd.underlying37 rfl infoTok ⟨rfl, B3⟩
set_option maxRecDepth 100000 in
set_option maxHeartbeats 1000000 in
theorem next_some (b o cap k d on : Nat) (v : Value) (gs : List GT) (g : GT) (hn : gs.length ≤ 1099511627776) (hg : gs[k + on]? = some g) (ho2 : on ≤ 4) (br : Nat) (w : World) (hT : Toks w (some ⟨b, o, none⟩) gs) (hR : IsS w br 71 (rdL (some ⟨b, o, none⟩) gs.length cap k d v)) :
    Calls Tryd.prog 80 #[.pointer (some ⟨br, 0, none⟩), .int .i64 (on : Int)] w fun e w' => e = .returned (.agg (gtL g).toArray) ∧ Below w.heap.size w w' := by
  have hlt := (List.getElem?_eq_some_iff.1 hg).1
  have hge : ¬ ((gs.length : Int) - k ≤ on) := by omega
  have hwr : IntKind.i64.wrap ((gs.length : Int) - k) = (gs.length : Int) - k := by rw [IntKind.wrap_i64]; omega
  have hwa : IntKind.i64.wrap ((k : Int) + on) = ((k + on : Nat) : Int) := by rw [IntKind.wrap_i64]; omega
  have hix : ((k + on : Nat) : Int) < gs.length := by omega
  have HR : Hid (∀ W, Below w.heap.size w W → b < W.heap.size ∧ W.rangeAt b (o + (k + on) * 7) (gtL g)) := fun W hB => by
    obtain ⟨b', o', e, h2, h3⟩ := hT.below hB (k + on) g hg
    cases e
    exact ⟨h2, h3⟩
  clear hT hg hlt
  obtain ⟨i, hi⟩ : ∃ i, k + on = i := ⟨_, rfl⟩
  rw [hi] at HR hwa hix
  clear hi
  generalize gs.length = n at *
  clear gs
  go_enter Tryd.func80, Tryd.ntmps80
  go_wp2_with (first
    | (refine wpList_allocS rfl 37 rfl (gtL noGT) Tryd.zeroValue37 ?_; intro W1 b4 F1 M1; have B1 := F1.trans (Below.refl _ w) (Nat.le_refl _); have R1 := hR.fresh F1; have hb4 : w.heap.size ≤ b4 := Nat.le_of_eq F1.at'.symm; have c0 : W1.cell? ⟨br, 0, none⟩ = some (.slice (some ⟨b, o, none⟩) n cap) := R1.cell 0; have c1 : W1.cell? ⟨br, 1, none⟩ = some (.int .i64 (k : Int)) := R1.cell 1; clear F1))
  go_quiet (fail)
  have M2 : IsS (W1.drewN nq) b4 37 (gtL noGT) := M1
  have R2 : IsS (W1.drewN nq) br 71 (rdL (some ⟨b, o, none⟩) n cap k d v) := R1
  have B2 : Below w.heap.size w (W1.drewN nq) := below_drewN B1 _
  clear c0 c1 M1 B1 R1
  generalize W1.drewN nq = W2 at *
  have c0 : W2.cell? ⟨br, 0, none⟩ = some (.slice (some ⟨b, o, none⟩) n cap) := R2.cell 0
  have c1 : W2.cell? ⟨br, 1, none⟩ = some (.int .i64 (k : Int)) := R2.cell 1
  go_wp2_with fail
  obtain ⟨hb2, hr2⟩ := HR.out W2 B2
  refine grow_tailW 12 (by kernel_rfl) (by kernel_rfl) ?_
  simp only [List.take_succ_cons, List.take_zero, List.drop_succ_cons, List.drop_zero]
  refine WG.put rfl (v := .pointer (some ⟨br, 0, none⟩)) (fun w => by first | rfl | (go_simp; done) | (simp [go_sem]; done)) ?_
  simp only [Act.put, List.setIfInBounds_toArray, List.set_cons_succ, List.set_cons_zero]
  refine WG.put rfl (v := .pointer (some ⟨br, 0, none⟩)) (fun w => by first | rfl | (go_simp; done) | (simp [go_sem]; done)) ?_
  simp only [Act.put, List.setIfInBounds_toArray, List.set_cons_succ, List.set_cons_zero]
  refine WG.put rfl (v := .pointer (some ⟨br, 0, none⟩)) (fun w => by first | rfl | (go_simp; done) | (simp [go_sem]; done)) ?_
  simp only [Act.put, List.setIfInBounds_toArray, List.set_cons_succ, List.set_cons_zero]
  refine WG.cell rfl 35 _ rfl rfl c0 ldTk ?_
  simp only [Act.put, List.setIfInBounds_toArray, List.set_cons_succ, List.set_cons_zero]
  refine WG.put rfl (v := .pointer (some ⟨br, 0, none⟩)) (fun w => by first | rfl | (go_simp; done) | (simp [go_sem]; done)) ?_
  simp only [Act.put, List.setIfInBounds_toArray, List.set_cons_succ, List.set_cons_zero]
  refine WG.put rfl (v := .pointer (some ⟨br, 0, none⟩)) (fun w => by first | rfl | (go_simp; done) | (simp [go_sem]; done)) ?_
  simp only [Act.put, List.setIfInBounds_toArray, List.set_cons_succ, List.set_cons_zero]
  refine WG.put rfl (v := .pointer (some ⟨br, 1, none⟩)) (fun w => by first | rfl | (go_simp; done) | (simp [go_sem]; done)) ?_
  simp only [Act.put, List.setIfInBounds_toArray, List.set_cons_succ, List.set_cons_zero]
  refine WG.cell rfl 3 _ rfl rfl c1 ld3 ?_
  simp only [Act.put, List.setIfInBounds_toArray, List.set_cons_succ, List.set_cons_zero]
  refine WG.put rfl (v := .int .i64 (on : Int)) (fun w => by first | rfl | (go_simp; done) | (simp [go_sem]; done)) ?_
  simp only [Act.put, List.setIfInBounds_toArray, List.set_cons_succ, List.set_cons_zero]
  refine WG.put rfl (v := .int .i64 (i : Int)) (fun w => by first | rfl | (go_simp; done) | (simp [go_sem, hwa]; done)) ?_
  simp only [Act.put, List.setIfInBounds_toArray, List.set_cons_succ, List.set_cons_zero]
  refine WG.put rfl (v := .pointer (some ⟨b, o + i * 7, none⟩)) (fun w => by first | rfl | (go_simp; done) | (simp [go_sem, hix]; done)) ?_
  simp only [Act.put, List.setIfInBounds_toArray, List.set_cons_succ, List.set_cons_zero]
  refine WG.range rfl 37 _ rfl rfl (gtL g) hb2 hr2 _ Tryd.underlying37 rfl infoTok ?_
  simp only [Act.put, List.setIfInBounds_toArray, List.set_cons_succ, List.set_cons_zero]
  refine WG.nil ?_
  intro W3 B3
  have M3 := M2.grown B3
  have B4 := B2.trans (B3.mono B2.size)
  clear M2 R2 c0 c1
  go_wp2_with (first
    | (refine wpList_storeS rfl 37 _ _ rfl rfl (gtL g) rfl M3 (by simp [gtL, noGT]) infoTok (gt_one _) ?_; intro W5 U5 M5x; have M5 : IsS W5 b4 37 (gtL g) := M5x; have B5 := U5.trans B4 hb4))
  exact ret_S (cs := gtL g) rfl rfl rfl M5 _ Tryd.underlying37 rfl infoTok ⟨rfl, B5⟩

/-- The token so many places further on. -/
def gAt (gs : List GT) (k : Nat) : GT := (gs[k]?).getD noGT
theorem next_any (a : Option Addr) (cap k d on : Nat) (v : Value) (gs : List GT) (hn : gs.length ≤ 1099511627776) (hk : k ≤ gs.length) (ho2 : on ≤ 4) (br : Nat) (w : World) (hT : Toks w a gs) (hR : IsS w br 71 (rdL a gs.length cap k d v)) :
    Calls Tryd.prog 80 #[.pointer (some ⟨br, 0, none⟩), .int .i64 (on : Int)] w fun e w' => e = .returned (.agg (gtL (gAt gs (k + on))).toArray) ∧ Below w.heap.size w w' := by
  cases hg : gs[k + on]? with
  | none =>
    have : gAt gs (k + on) = noGT := by unfold gAt; rw [hg]; rfl
    rw [this]
    exact next_none a gs.length cap k d on v hn hk (List.getElem?_eq_none_iff.1 hg) ho2 br w hR
  | some g =>
    have : gAt gs (k + on) = g := by unfold gAt; rw [hg]; rfl
    rw [this]
    obtain ⟨b, o, rfl, _, _⟩ := hT (k + on) g hg
    exact next_some b o cap k d on v gs g hn hg ho2 br w hT hR
set_option maxRecDepth 100000 in
set_option maxHeartbeats 1000000 in
theorem sees_any (a : Option Addr) (cap k d : Nat) (v : Value) (gs : List GT) (hn : gs.length ≤ 1099511627776) (hk : k ≤ gs.length) (s : ByteArray) (br : Nat) (w : World) (hT : Toks w a gs) (hR : IsS w br 71 (rdL a gs.length cap k d v)) :
    Calls Tryd.prog 64 #[.pointer (some ⟨br, 0, none⟩), .string s] w fun e w' => e = .returned (.bool (decide ((gAt gs k).kind = 4 ∧ (gAt gs k).text.data.toList = s.data.toList))) ∧ Below w.heap.size w w' := by
  have cN := next_any a cap k d 0 v gs hn hk (by omega) br w hT hR
  rw [Nat.add_zero] at cN
  have cS := fun W => isSign_any (gAt gs k) s W
  generalize decide ((gAt gs k).kind = 4 ∧ (gAt gs k).text.data.toList = s.data.toList) = q at *
  go_enter Tryd.func64, Tryd.ntmps64
  go_wp2_with (first
    | (go_at_call 80; refine cN.mono ?_; rintro e W1 ⟨rfl, B1⟩)
    | (go_at_call 79; refine (cS _).mono ?_; rintro e W2 ⟨rfl, B2⟩))
  go_ret
  exact ⟨rfl, Below.then B1 B2⟩
end Go.Proofs.YtjnbhcakfenbhaaDoor

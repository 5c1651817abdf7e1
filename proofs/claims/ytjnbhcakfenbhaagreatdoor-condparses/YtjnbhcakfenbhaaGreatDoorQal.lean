/- Several texts in one: K1, K2. -/
import Derived.Test.YtjnbhcakfenbhaaGreatDoorQak
/- The reader of tokens: what it looks at (next, isSign, sees), and how it gives up (throw, must). -/
namespace Go.Proofs.YtjnbhcakfenbhaaGreatDoor
open Go.RowKit Go.Shelf M
set_option linter.unusedSimpArgs false
set_option linter.unusedVariables false

/-- A token as a caller hands it in. -/
structure GT where
  kind : Int
  text : ByteArray
  value : Int
  line : Int
  col : Int
  at' : Int
  fin : Int
def gtL (g : GT) : List Value := [.int .i64 g.kind, .string g.text, .int .i64 g.value, .int .i64 g.line, .int .i64 g.col, .int .i64 g.at', .int .i64 g.fin]
def noGT : GT := ⟨0, ⟨#[]⟩, 0, 0, 0, 0, 0⟩
theorem gt_one (g : GT) : ∀ v ∈ gtL g, v.oneCell' = true := by simp [gtL, Value.oneCell']
theorem ldTk {b o : Nat} {v : Value} (w : World) (h : w.cell? ⟨b, o, none⟩ = some v) : (Instr.loadAt 43 (.pointer (some ⟨b, o, none⟩))).run Tryz.prog w = .ok v w := by simp [go_sem, h]
theorem infoTok : (Tryz.prog.info? 49).map (·.size) = some 7 := by kernel_rfl
/-- Tokens in memory. -/
def Toks (w : World) (a : Option Addr) (gs : List GT) : Prop := ∀ j g, gs[j]? = some g → ∃ b o, a = some ⟨b, o, none⟩ ∧ b < w.heap.size ∧ w.rangeAt b (o + j * 7) (gtL g)
theorem Toks.below {w W : World} {a : Option Addr} {gs : List GT} (h : Toks w a gs) (hB : Below w.heap.size w W) : Toks W a gs := fun j g hg => by
  obtain ⟨b, o, h1, h2, h3⟩ := h j g hg
  refine ⟨b, o, h1, Nat.lt_of_lt_of_le h2 hB.size, fun i v hv => ?_⟩
  rw [hB.cell (p := ⟨b, o + j * 7 + i, none⟩) h2]
  exact h3 i v hv
/-- The reader's own cells. -/
def rdL (a : Option Addr) (n cap : Nat) (k : Nat) (d : Nat) (v : Value) : List Value := [.slice a n cap, .int .i64 (k : Int), .int .i64 (d : Int), v]

set_option maxRecDepth 100000 in
set_option maxHeartbeats 1000000 in
theorem isSign_any (g : GT) (s : ByteArray) (w : World) : Calls Tryz.prog 108 #[.agg (gtL g).toArray, .string s] w fun e w' => e = .returned (.bool (decide (g.kind = 4 ∧ g.text.data.toList = s.data.toList))) ∧ Below w.heap.size w w' := by
  obtain ⟨k, tx, v, a, b, c, d⟩ := g
  dsimp only [gtL]
  obtain ⟨V, hV⟩ : ∃ V, decide (k = 4 ∧ tx.data.toList = s.data.toList) = V := ⟨_, rfl⟩
  rw [hV]
  have HV : Hid (V = decide (k = 4 ∧ tx.data.toList = s.data.toList)) := hV.symm
  clear hV
  by_cases hk : k = 4
  · have hk' : (k == 4) = true := by simp [hk]
    clear hk
    go_enter Tryz.func108, Tryz.ntmps108
    go_wp2_with (first
      | (refine wpList_boxS rfl 49 _ rfl (gtL ⟨k, tx, v, a, b, c, d⟩) rfl ?_; intro W1 b1 F1 N1; have B1 := F1.trans (Below.refl _ w) (Nat.le_refl _); have c0 : W1.cell? ⟨b1, 0, none⟩ = some (.int .i64 k) := N1.cell 0; have c1 : W1.cell? ⟨b1, 1, none⟩ = some (.string tx) := N1.cell 1; clear F1))
    all_goals go_ret
    all_goals refine ⟨ret_bool ?_, B1⟩
    all_goals (rw [HV.out, Bool.eq_iff_iff]; simp at hk'; simp [toL, hk'])
  · have hk' : (k == 4) = false := by simpa using hk
    clear hk
    go_enter Tryz.func108, Tryz.ntmps108
    go_wp2_with (first
      | (refine wpList_boxS rfl 49 _ rfl (gtL ⟨k, tx, v, a, b, c, d⟩) rfl ?_; intro W1 b1 F1 N1; have B1 := F1.trans (Below.refl _ w) (Nat.le_refl _); have c0 : W1.cell? ⟨b1, 0, none⟩ = some (.int .i64 k) := N1.cell 0; have c1 : W1.cell? ⟨b1, 1, none⟩ = some (.string tx) := N1.cell 1; clear F1))
    all_goals go_ret
    all_goals refine ⟨ret_bool ?_, B1⟩
    all_goals (rw [HV.out]; simp at hk'; simp [hk'])

set_option maxRecDepth 100000 in
set_option maxHeartbeats 1000000 in
theorem next_none (a : Option Addr) (n cap k d on : Nat) (v : Value) (hn : n ≤ 1099511627776) (hk : k ≤ n) (ho : n ≤ k + on) (ho2 : on ≤ 4) (br : Nat) (w : World) (hR : IsS w br 94 (rdL a n cap k d v)) :
    Calls Tryz.prog 109 #[.pointer (some ⟨br, 0, none⟩), .int .i64 (on : Int)] w fun e w' => e = .returned (.agg (gtL noGT).toArray) ∧ Below w.heap.size w w' := by
  have hge : (n : Int) - k ≤ on := by omega
  have hwr : IntKind.i64.wrap ((n : Int) - k) = (n : Int) - k := by rw [IntKind.wrap_i64]; omega
  go_enter Tryz.func109, Tryz.ntmps109
  go_wp2_with (first
    | (refine wpList_allocS rfl 49 rfl (gtL noGT) Tryz.zeroValue49 ?_; intro W1 b4 F1 M1; have B1 := F1.trans (Below.refl _ w) (Nat.le_refl _); have R1 := hR.fresh F1; have hb4 : w.heap.size ≤ b4 := Nat.le_of_eq F1.at'.symm; have c0 : W1.cell? ⟨br, 0, none⟩ = some (.slice a n cap) := R1.cell 0; have c1 : W1.cell? ⟨br, 1, none⟩ = some (.int .i64 (k : Int)) := R1.cell 1; clear F1))
  go_quiet (fail)
  have M2 : IsS (W1.drewN nq) b4 49 (gtL noGT) := M1
  have B2 : Below w.heap.size w (W1.drewN nq) := below_drewN B1 _
  clear c0 c1 M1 B1 R1
  generalize W1.drewN nq = W2 at *
  go_wp2_with (first
    | (refine wpList_storeS rfl 49 _ _ rfl rfl (gtL noGT) rfl M2 (by simp [gtL, noGT]) infoTok (gt_one _) ?_; intro W3 U3 M3x; have M3 : IsS W3 b4 49 (gtL noGT) := M3x; have B3 := U3.trans B2 hb4))
  exact ret_S (cs := gtL noGT) rfl rfl rfl M3 _ Tryz.underlying49 rfl infoTok ⟨rfl, B3⟩
set_option maxRecDepth 100000 in
set_option maxHeartbeats 1000000 in
theorem next_some (b o cap k d on : Nat) (v : Value) (gs : List GT) (g : GT) (hn : gs.length ≤ 1099511627776) (hg : gs[k + on]? = some g) (ho2 : on ≤ 4) (br : Nat) (w : World) (hT : Toks w (some ⟨b, o, none⟩) gs) (hR : IsS w br 94 (rdL (some ⟨b, o, none⟩) gs.length cap k d v)) :
    Calls Tryz.prog 109 #[.pointer (some ⟨br, 0, none⟩), .int .i64 (on : Int)] w fun e w' => e = .returned (.agg (gtL g).toArray) ∧ Below w.heap.size w w' := by
  have hlt := (List.getElem?_eq_some_iff.1 hg).1
  have hge : ¬ ((gs.length : Int) - k ≤ on) := by omega
  have hwr : IntKind.i64.wrap ((gs.length : Int) - k) = (gs.length : Int) - k := by rw [IntKind.wrap_i64]; omega
  have hwa : IntKind.i64.wrap ((k : Int) + on) = ((k + on : Nat) : Int) := by rw [IntKind.wrap_i64]; omega
  have hix : ((k + on : Nat) : Int) < gs.length := by omega
  have HR : Hid (∀ W, Below w.heap.size w W → b < W.heap.size ∧ W.rangeAt b (o + (k + on) * 7) (gtL g)) := fun W hB => by
    obtain ⟨b', o', e, h2, h3⟩ := hT.below hB (k + on) g hg
    cases e
    exact ⟨h2, h3⟩
  clear hT hg hlt
  obtain ⟨i, hi⟩ : ∃ i, k + on = i := ⟨_, rfl⟩
  rw [hi] at HR hwa hix
  clear hi
  generalize gs.length = n at *
  clear gs
  go_enter Tryz.func109, Tryz.ntmps109
  go_wp2_with (first
    | (refine wpList_allocS rfl 49 rfl (gtL noGT) Tryz.zeroValue49 ?_; intro W1 b4 F1 M1; have B1 := F1.trans (Below.refl _ w) (Nat.le_refl _); have R1 := hR.fresh F1; have hb4 : w.heap.size ≤ b4 := Nat.le_of_eq F1.at'.symm; have c0 : W1.cell? ⟨br, 0, none⟩ = some (.slice (some ⟨b, o, none⟩) n cap) := R1.cell 0; have c1 : W1.cell? ⟨br, 1, none⟩ = some (.int .i64 (k : Int)) := R1.cell 1; clear F1))
  go_quiet (fail)
  have M2 : IsS (W1.drewN nq) b4 49 (gtL noGT) := M1
  have R2 : IsS (W1.drewN nq) br 94 (rdL (some ⟨b, o, none⟩) n cap k d v) := R1
  have B2 : Below w.heap.size w (W1.drewN nq) := below_drewN B1 _
  clear c0 c1 M1 B1 R1
  generalize W1.drewN nq = W2 at *
  have c0 : W2.cell? ⟨br, 0, none⟩ = some (.slice (some ⟨b, o, none⟩) n cap) := R2.cell 0
  have c1 : W2.cell? ⟨br, 1, none⟩ = some (.int .i64 (k : Int)) := R2.cell 1
  go_wp2_with fail
  obtain ⟨hb2, hr2⟩ := HR.out W2 B2
  refine grow_tailW 12 (by kernel_rfl) (by kernel_rfl) ?_
  simp only [List.take_succ_cons, List.take_zero, List.drop_succ_cons, List.drop_zero]
  refine WG.put rfl (v := .pointer (some ⟨br, 0, none⟩)) (fun w => by first | rfl | (go_simp; done) | (simp [go_sem]; done)) ?_
  simp only [Act.put, List.setIfInBounds_toArray, List.set_cons_succ, List.set_cons_zero]
  refine WG.put rfl (v := .pointer (some ⟨br, 0, none⟩)) (fun w => by first | rfl | (go_simp; done) | (simp [go_sem]; done)) ?_
  simp only [Act.put, List.setIfInBounds_toArray, List.set_cons_succ, List.set_cons_zero]
  refine WG.put rfl (v := .pointer (some ⟨br, 0, none⟩)) (fun w => by first | rfl | (go_simp; done) | (simp [go_sem]; done)) ?_
  simp only [Act.put, List.setIfInBounds_toArray, List.set_cons_succ, List.set_cons_zero]
  refine WG.cell rfl 43 _ rfl rfl c0 ldTk ?_
  simp only [Act.put, List.setIfInBounds_toArray, List.set_cons_succ, List.set_cons_zero]
  refine WG.put rfl (v := .pointer (some ⟨br, 0, none⟩)) (fun w => by first | rfl | (go_simp; done) | (simp [go_sem]; done)) ?_
  simp only [Act.put, List.setIfInBounds_toArray, List.set_cons_succ, List.set_cons_zero]
  refine WG.put rfl (v := .pointer (some ⟨br, 0, none⟩)) (fun w => by first | rfl | (go_simp; done) | (simp [go_sem]; done)) ?_
  simp only [Act.put, List.setIfInBounds_toArray, List.set_cons_succ, List.set_cons_zero]
  refine WG.put rfl (v := .pointer (some ⟨br, 1, none⟩)) (fun w => by first | rfl | (go_simp; done) | (simp [go_sem]; done)) ?_
  simp only [Act.put, List.setIfInBounds_toArray, List.set_cons_succ, List.set_cons_zero]
  refine WG.cell rfl 3 _ rfl rfl c1 ld3 ?_
  simp only [Act.put, List.setIfInBounds_toArray, List.set_cons_succ, List.set_cons_zero]
  refine WG.put rfl (v := .int .i64 (on : Int)) (fun w => by first | rfl | (go_simp; done) | (simp [go_sem]; done)) ?_
  simp only [Act.put, List.setIfInBounds_toArray, List.set_cons_succ, List.set_cons_zero]
  refine WG.put rfl (v := .int .i64 (i : Int)) (fun w => by first | rfl | (go_simp; done) | (simp [go_sem, hwa]; done)) ?_
  simp only [Act.put, List.setIfInBounds_toArray, List.set_cons_succ, List.set_cons_zero]
  refine WG.put rfl (v := .pointer (some ⟨b, o + i * 7, none⟩)) (fun w => by first | rfl | (go_simp; done) | (simp [go_sem, hix]; done)) ?_
  simp only [Act.put, List.setIfInBounds_toArray, List.set_cons_succ, List.set_cons_zero]
  refine WG.range rfl 49 _ rfl rfl (gtL g) hb2 hr2 _ Tryz.underlying49 rfl infoTok ?_
  simp only [Act.put, List.setIfInBounds_toArray, List.set_cons_succ, List.set_cons_zero]
  refine WG.nil ?_
  intro W3 B3
  have M3 := M2.grown B3
  have B4 := B2.trans (B3.mono B2.size)
  clear M2 R2 c0 c1
  go_wp2_with (first
    | (refine wpList_storeS rfl 49 _ _ rfl rfl (gtL g) rfl M3 (by simp [gtL, noGT]) infoTok (gt_one _) ?_; intro W5 U5 M5x; have M5 : IsS W5 b4 49 (gtL g) := M5x; have B5 := U5.trans B4 hb4))
  exact ret_S (cs := gtL g) rfl rfl rfl M5 _ Tryz.underlying49 rfl infoTok ⟨rfl, B5⟩

/-- The token so many places further on. -/
def gAt (gs : List GT) (k : Nat) : GT := (gs[k]?).getD noGT
theorem next_any (a : Option Addr) (cap k d on : Nat) (v : Value) (gs : List GT) (hn : gs.length ≤ 1099511627776) (hk : k ≤ gs.length) (ho2 : on ≤ 4) (br : Nat) (w : World) (hT : Toks w a gs) (hR : IsS w br 94 (rdL a gs.length cap k d v)) :
    Calls Tryz.prog 109 #[.pointer (some ⟨br, 0, none⟩), .int .i64 (on : Int)] w fun e w' => e = .returned (.agg (gtL (gAt gs (k + on))).toArray) ∧ Below w.heap.size w w' := by
  cases hg : gs[k + on]? with
  | none =>
    have : gAt gs (k + on) = noGT := by unfold gAt; rw [hg]; rfl
    rw [this]
    exact next_none a gs.length cap k d on v hn hk (List.getElem?_eq_none_iff.1 hg) ho2 br w hR
  | some g =>
    have : gAt gs (k + on) = g := by unfold gAt; rw [hg]; rfl
    rw [this]
    obtain ⟨b, o, rfl, _, _⟩ := hT (k + on) g hg
    exact next_some b o cap k d on v gs g hn hg ho2 br w hT hR
set_option maxRecDepth 100000 in
set_option maxHeartbeats 1000000 in
theorem sees_any (a : Option Addr) (cap k d : Nat) (v : Value) (gs : List GT) (hn : gs.length ≤ 1099511627776) (hk : k ≤ gs.length) (s : ByteArray) (br : Nat) (w : World) (hT : Toks w a gs) (hR : IsS w br 94 (rdL a gs.length cap k d v)) :
    Calls Tryz.prog 85 #[.pointer (some ⟨br, 0, none⟩), .string s] w fun e w' => e = .returned (.bool (decide ((gAt gs k).kind = 4 ∧ (gAt gs k).text.data.toList = s.data.toList))) ∧ Below w.heap.size w w' := by
  have cN := next_any a cap k d 0 v gs hn hk (by omega) br w hT hR
  rw [Nat.add_zero] at cN
  have cS := fun W => isSign_any (gAt gs k) s W
  generalize decide ((gAt gs k).kind = 4 ∧ (gAt gs k).text.data.toList = s.data.toList) = q at *
  go_enter Tryz.func85, Tryz.ntmps85
  go_wp2_with (first
    | (go_at_call 109; refine cN.mono ?_; rintro e W1 ⟨rfl, B1⟩)
    | (go_at_call 108; refine (cS _).mono ?_; rintro e W2 ⟨rfl, B2⟩))
  go_ret
  exact ⟨rfl, Below.then B1 B2⟩
end Go.Proofs.YtjnbhcakfenbhaaGreatDoor
/- How the reader gives up: throw, must. -/
namespace Go.Proofs.YtjnbhcakfenbhaaGreatDoor
open Go.RowKit Go.Shelf M
set_option linter.unusedSimpArgs false
set_option linter.unusedVariables false

/-- The place at which the reader gives up: that token, the last one behind the list's end. -/
def gEnd (gs : List GT) (k : Nat) : GT := if gs.length = 0 then noGT else gAt gs (min k (gs.length - 1))
/-- What is thrown. -/
def Thrown (w : World) (l c e : Int) (en : Ending) (w' : World) : Prop :=
  ∃ bp, en = .panicked [{ v := .iface 52 (.pointer (some ⟨bp, 0, none⟩)), recovered := false }] ∧ w.heap.size ≤ bp ∧ IsS w' bp 54 [.int .i64 l, .int .i64 c, .iface 37 (.int .i64 e)]

set_option maxRecDepth 100000 in
set_option maxHeartbeats 1000000 in
theorem throw_none (a : Option Addr) (cap k d : Nat) (v : Value) (x : Nat) (e : Int) (br : Nat) (w : World) (hR : IsS w br 94 (rdL a 0 cap k d v)) :
    Calls Tryz.prog 110 #[.pointer (some ⟨br, 0, none⟩), .int .i64 (x : Int), .int .i64 e] w fun en w' => Thrown w 0 0 e en w' ∧ Below w.heap.size w w' := by
  go_enter Tryz.func110, Tryz.ntmps110
  go_wp2_with (first
    | (refine wpList_allocS rfl 49 rfl (gtL noGT) Tryz.zeroValue49 ?_; intro W1 b4 F1 M1; have B1 := F1.trans (Below.refl _ w) (Nat.le_refl _); have R1 := hR.fresh F1; have c0 : W1.cell? ⟨br, 0, none⟩ = some (.slice a 0 cap) := R1.cell 0; have m3 : W1.cell? ⟨b4, 3, none⟩ = some (.int .i64 0) := M1.cell 3; have m4 : W1.cell? ⟨b4, 4, none⟩ = some (.int .i64 0) := M1.cell 4; clear F1)
    | (refine wpList_boxS rfl 54 _ rfl [.int .i64 0, .int .i64 0, .iface 37 (.int .i64 e)] rfl ?_; intro W2 b5 F2 N2; have B2 := F2.trans B1 B1.size; have hb5 : w.heap.size ≤ b5 := (by have := B1.size; have := F2.at'; omega)))
  exact ⟨rfl, ⟨b5, rfl, hb5, N2⟩, B2⟩
set_option maxRecDepth 100000 in
set_option maxHeartbeats 1000000 in
theorem throw_some (b o cap k d m i : Nat) (v : Value) (x : Nat) (e : Int) (g : GT) (hm : m ≤ 1099511627776) (hx : x ≤ 1099511627776) (hi : min x m = i) (br : Nat) (w : World) (hg : ∀ W, Below w.heap.size w W → b < W.heap.size ∧ W.rangeAt b (o + i * 7) (gtL g)) (hR : IsS w br 94 (rdL (some ⟨b, o, none⟩) (m + 1) cap k d v)) :
    Calls Tryz.prog 110 #[.pointer (some ⟨br, 0, none⟩), .int .i64 (x : Int), .int .i64 e] w fun en w' => Thrown w g.line g.col e en w' ∧ Below w.heap.size w w' := by
  have hmn : min (x : Int) (m : Int) = (i : Int) := by omega
  have hix : (i : Int) < (m : Int) + 1 := by omega
  have HG : Hid (∀ W, Below w.heap.size w W → b < W.heap.size ∧ W.rangeAt b (o + i * 7) (gtL g)) := hg
  obtain ⟨gk, gt, gv, gl, gc, ga, gf⟩ := g
  dsimp only
  clear hg hi
  go_enter Tryz.func110, Tryz.ntmps110
  go_wp2_with (first
    | (refine wpList_allocS rfl 49 rfl (gtL noGT) Tryz.zeroValue49 ?_; intro W1 b4 F1 M1; have B1 := F1.trans (Below.refl _ w) (Nat.le_refl _); have R1 := hR.fresh F1; have hb4 : w.heap.size ≤ b4 := Nat.le_of_eq F1.at'.symm; have c0 : W1.cell? ⟨br, 0, none⟩ = some (.slice (some ⟨b, o, none⟩) (m + 1) cap) := R1.cell 0; have r1 := (HG.out W1 B1).2; clear F1)
    | (refine wpList_load_mid rfl 49 _ rfl b _ rfl (gtL ⟨gk, gt, gv, gl, gc, ga, gf⟩) _ r1 Tryz.underlying49 rfl infoTok ?_)
    | (refine wpList_storeS rfl 49 _ _ rfl rfl (gtL ⟨gk, gt, gv, gl, gc, ga, gf⟩) rfl M1 (by simp [gtL, noGT]) infoTok (gt_one _) ?_; intro W3 U3 M3x; have M3 : IsS W3 b4 49 (gtL ⟨gk, gt, gv, gl, gc, ga, gf⟩) := M3x; have B3 := U3.trans B1 hb4; have m3 : W3.cell? ⟨b4, 3, none⟩ = some (.int .i64 gl) := M3.cell 3; have m4 : W3.cell? ⟨b4, 4, none⟩ = some (.int .i64 gc) := M3.cell 4; clear U3 M3x M1 R1 c0)
    | (refine wpList_boxS rfl 54 _ rfl [.int .i64 gl, .int .i64 gc, .iface 37 (.int .i64 e)] rfl ?_; intro W4 b5 F4 N4; have B4 := F4.trans B3 B3.size; have hb5 : w.heap.size ≤ b5 := (by have := B3.size; have := F4.at'; omega)))
  exact ⟨rfl, ⟨b5, rfl, hb5, N4⟩, B4⟩
theorem throw_any (a : Option Addr) (cap k d : Nat) (v : Value) (gs : List GT) (hn : gs.length ≤ 1099511627776) (x : Nat) (hx : x ≤ 1099511627776) (e : Int) (br : Nat) (w : World) (hT : Toks w a gs) (hR : IsS w br 94 (rdL a gs.length cap k d v)) :
    Calls Tryz.prog 110 #[.pointer (some ⟨br, 0, none⟩), .int .i64 (x : Int), .int .i64 e] w fun en w' => Thrown w (gEnd gs x).line (gEnd gs x).col e en w' ∧ Below w.heap.size w w' := by
  by_cases h0 : gs.length = 0
  · rw [h0] at hR
    have : gEnd gs x = noGT := if_pos h0
    rw [this]
    exact throw_none a cap k d v x e br w hR
  · obtain ⟨m, hm⟩ : ∃ m, gs.length = m + 1 := ⟨gs.length - 1, by omega⟩
    obtain ⟨i, hi⟩ : ∃ i, min x m = i := ⟨_, rfl⟩
    obtain ⟨g, hg⟩ : ∃ g, gs[i]? = some g := ⟨_, List.getElem?_eq_getElem (by omega)⟩
    have : gEnd gs x = g := by unfold gEnd gAt; rw [if_neg h0, show min x (gs.length - 1) = i by omega, hg]; rfl
    rw [this]
    obtain ⟨b, o, rfl, _, _⟩ := hT i g hg
    rw [hm] at hR
    refine throw_some b o cap k d m i v x e g (by omega) hx hi br w (fun W hB => ?_) hR
    obtain ⟨b', o', e', h2, h3⟩ := hT.below hB i g hg
    cases e'
    exact ⟨h2, h3⟩
set_option maxRecDepth 100000 in
set_option maxHeartbeats 1000000 in
theorem must_true (br : Nat) (w : World) : Calls Tryz.prog 137 #[.pointer (some ⟨br, 0, none⟩), .bool true] w fun en w' => en = .returned (.tuple #[]) ∧ w' = w := by
  go_enter Tryz.func137, Tryz.ntmps137
  go_wp2_with fail
  exact ⟨rfl, .tuple #[], (by simp [results, Tryz.results137, go_sem]), rfl, rfl⟩
set_option maxRecDepth 100000 in
set_option maxHeartbeats 1000000 in
theorem must_false (a : Option Addr) (cap k d : Nat) (v : Value) (gs : List GT) (hn : gs.length ≤ 1099511627776) (hk : k ≤ 1099511627776) (br : Nat) (w : World) (hT : Toks w a gs) (hR : IsS w br 94 (rdL a gs.length cap k d v)) :
    Calls Tryz.prog 137 #[.pointer (some ⟨br, 0, none⟩), .bool false] w fun en w' => Thrown w (gEnd gs k).line (gEnd gs k).col 70 en w' ∧ Below w.heap.size w w' := by
  have cT := throw_any a cap k d v gs hn k hk 70 br w hT hR
  have c1 : w.cell? ⟨br, 1, none⟩ = some (.int .i64 (k : Int)) := hR.cell 1
  go_enter Tryz.func137, Tryz.ntmps137
  go_wp2_with (first
    | (go_at_call 110; refine cT.mono ?_; rintro en W1 ⟨⟨bp, rfl, hb, hI⟩, B1⟩))
  exact ⟨rfl, ⟨bp, rfl, hb, hI⟩, B1⟩
end Go.Proofs.YtjnbhcakfenbhaaGreatDoor

/- Several texts in one: AW, LB1. -/
import Derived.Test.YtegpnicajlndlaaQbl
import Derived.Test.YtegpnicajlndlaaQaz
/- The law's example: sequential consistency's third. -/
namespace Go.Proofs.Ytegpnicajlndlaa
open Go.RowKit M
set_option linter.unusedSimpArgs false
set_option linter.unusedVariables false

def sEAX : ByteArray := ⟨#[69, 65, 88]⟩
def sX : ByteArray := ⟨#[120]⟩
def sY : ByteArray := ⟨#[121]⟩
/-- The program SB, its registers at first r. -/
def exP (r : Int) : PG := ⟨[[⟨4, 0, 0, 0, 1⟩, ⟨3, 0, 0, 1, 0⟩], [⟨4, 0, 0, 1, 1⟩, ⟨3, 0, 0, 0, 0⟩]], [[sEAX], [sEAX]], [sX, sY], [[r], [r]], [0, 0]⟩
theorem exP_few (r : Int) : (exP r).Few := by
  constructor <;> first | (simp [exP]; done) | skip
  · intro l hl s hs
    simp [exP] at hl
    subst hl
    simp at hs
    subst hs
    unfold maxLen
    decide
  · intro s hs
    simp [exP] at hs
    rcases hs with rfl | rfl <;> (unfold maxLen; decide)
theorem exP_valid (r : Int) : validV (exP r) = 0 := by
  have hR : RegsTo (exP r).regs (exP r).regInit (exP r).regs.length := fun i x q hi hx hq => by
    have hi : i < 2 := hi
    have key : x = [sEAX] ∧ q = [r] := by
      rcases (by omega : i = 0 ∨ i = 1) with rfl | rfl <;> (simp [exP] at hx hq; exact ⟨hx.symm, hq.symm⟩)
    obtain ⟨rfl, rfl⟩ := key
    refine ⟨rfl, fun j s hj hs => ?_⟩
    have hj : j < 1 := hj
    obtain rfl : j = 0 := by omega
    simp at hs
    subst hs
    exact ⟨by decide, fun s' h0 => absurd h0 (by omega)⟩
  have hL : RisTo nameK (exP r).locs (exP r).locs.length := fun j s hj hs => by
    have hj : j < 2 := hj
    rcases (by omega : j = 0 ∨ j = 1) with rfl | rfl
    · simp [exP] at hs
      subst hs
      exact ⟨by decide, fun s' h0 => absurd h0 (by omega)⟩
    · simp [exP] at hs
      subst hs
      refine ⟨by decide, fun s' _ hs' => ?_⟩
      simp [exP] at hs'
      subst hs'
      first | (decide +kernel) | kernel_rfl
  have hO : OpsTo (exP r).threads (exP r).regs (exP r).locs.length (exP r).threads.length := fun i l x hi hl hx o ho => by
    have hi : i < 2 := hi
    rcases (by omega : i = 0 ∨ i = 1) with rfl | rfl
    all_goals
      simp [exP] at hl hx
      subst hl hx
      simp at ho
      rcases ho with rfl | rfl <;> (show opOk _ _ 2 = true; decide)
  have hM : ¬ Many (exP r).regs (exP r).regs.length := fun ⟨i, x, hi, hx, h8⟩ => by
    have hi : i < 2 := hi
    rcases (by omega : i = 0 ∨ i = 1) with rfl | rfl <;> (simp [exP] at hx; subst hx; simp at h8)
  have he : regsErr (exP r) = 0 := by
    unfold regsErr
    rw [if_neg (by simp [exP]), if_neg (fun h => h hR), if_neg hM]
  unfold validV
  rw [if_neg (by simp [exP]), if_neg (fun h => h he), if_neg (by rw [ris_t hL]; simp [exP])]
  rw [if_neg (by simp [exP]), if_neg (by rw [opsB_t hO]; simp)]
  rfl
theorem exP_play : playF (exP 0) [0, 0, 1, 1] = some [0, 1, 1, 1] := by decide +kernel
theorem exec_buildOps {w : World} {op : Oper} {a : Act} {x y : Operand} (ho : op.op = .buildSlice 61 2 #[(0, x), (1, y)]) (o1 o2 : Op5) (hx : a.eval x = .agg (op5L o1).toArray) (hy : a.eval y = .agg (op5L o2).toArray) :
    (execOp a.eval op).run Try.prog w = .ok (.value (.slice (some ⟨w.heap.size, 0, none⟩) 2 2)) (w.alloc (.cells ([o1, o2].flatMap op5L).toArray 63)) := by
  obtain ⟨i, hi, hz, hk, _⟩ := eOp.info
  generalize a.eval = ev at hx hy ⊢
  unfold execOp
  simp only [ho, hx, hy]
  simp [Instr.buildSlice, Instr.fill, run_underlying eOp.und, sizeOf, typeInfo, zeroValue, hi, hk, hz, hx, hy, Value.cells, op5L, newRow, show Array.range 10 = #[0, 1, 2, 3, 4, 5, 6, 7, 8, 9] from rfl]
theorem exec_build4I {w : World} {op : Oper} {a : Act} {x0 x1 x2 x3 : Operand} (ho : op.op = .buildSlice 29 4 #[(0, x0), (1, x1), (2, x2), (3, x3)]) (i0 i1 i2 i3 : Int) (h0 : a.eval x0 = .int .i64 i0) (h1 : a.eval x1 = .int .i64 i1) (h2 : a.eval x2 = .int .i64 i2) (h3 : a.eval x3 = .int .i64 i3) :
    (execOp a.eval op).run Try.prog w = .ok (.value (.slice (some ⟨w.heap.size, 0, none⟩) 4 4)) (w.alloc (.cells ([i0, i1, i2, i3].flatMap intE).toArray 3)) := by
  obtain ⟨i, hi, hz, hk, _⟩ := eIntI.info
  generalize a.eval = ev at h0 h1 h2 h3 ⊢
  unfold execOp
  simp only [ho, h0, h1, h2, h3]
  simp [Instr.buildSlice, Instr.fill, run_underlying eIntI.und, sizeOf, typeInfo, zeroValue, hi, hk, hz, h0, h1, h2, h3, Value.cells, intE, newRow, show Array.range 4 = #[0, 1, 2, 3] from rfl]
theorem wpList_build {w : World} {ops : Array Oper} {rest : List Oper} {op : Oper} {a : Act} {Q : Exit → Act → World → Prop} {n t : Nat} {cs : List Value} (hgd : op.guard = none) (hr : (execOp a.eval op).run Try.prog w = .ok (.value (.slice (some ⟨w.heap.size, 0, none⟩) n n)) (w.alloc (.cells cs.toArray t)))
    (h : ∀ W b, Fresh w W b → IsS W b t cs → wpList Try.prog ops Q rest (a.put op.dst (slc b n)) W) : wpList Try.prog ops Q (op :: rest) a w := by
  refine wpList_plain hgd fun K hK => ?_
  unfold Oper.wp
  rw [hr]
  exact hK _ _ (h _ _ (Fresh.alloc w _) (IsS.new w t cs))
theorem rows2 {α : Type} {W : World} {g t : Nat} {u v : Value} {enc : α → List Value} {xs ys : List α} (I : IsS W g t [u, v]) (hu : RowV W u xs.length (xs.flatMap enc)) (hv : RowV W v ys.length (ys.flatMap enc)) : RowsV W (slc g 2) enc [xs, ys] := by
  refine ⟨[u, v], rfl, row_isS I, fun j x l hx hl => ?_⟩
  rcases (by have := (List.getElem?_eq_some_iff.1 hx).1; simp at this; omega : j = 0 ∨ j = 1) with rfl | rfl
  · simp at hx hl; subst hx hl; exact hu
  · simp at hx hl; subst hx hl; exact hv
theorem rowS {W : World} {g t n : Nat} {cs : List Value} (I : IsS W g t cs) : RowV W (slc g n) n cs := row_isS I
theorem build_pg {w : World} {op : Oper} {a : Act} {x0 x1 x2 x3 x4 : Operand} {g0 g1 g2 g3 g4 : Nat} (ho : op.op = .build 28 #[(0, x0), (1, x1), (2, x2), (3, x3), (4, x4)]) (h0 : a.eval x0 = slc g0 2) (h1 : a.eval x1 = slc g1 2) (h2 : a.eval x2 = slc g2 2) (h3 : a.eval x3 = slc g3 2) (h4 : a.eval x4 = slc g4 2) : (execOp a.eval op).run Try.prog w = .ok (.value (.agg [slc g0 2, slc g1 2, slc g2 2, slc g3 2, slc g4 2].toArray)) w := by
  have h : Try.t28.zero = some (.agg #[.slice none 0 0, .slice none 0 0, .slice none 0 0, .slice none 0 0, .slice none 0 0]) := by kernel_rfl
  generalize a.eval = ev at h0 h1 h2 h3 h4 ⊢
  unfold slc at *
  unfold execOp
  simp [ho, h0, h1, h2, h3, h4, go_sem, zeroValue, h]
set_option maxRecDepth 100000 in
set_option maxHeartbeats 8000000 in
theorem awake_any (w : World) : Calls Try.prog 35 #[] w fun e w' => e = .returned (.bool true) ∧ Below w.heap.size w w' := by
  have hfin : (finL [0, 1, 1, 1]).length = 49 := finL_len (by simp)
  have hz49 : (finL []).length = 49 := finL_len (by simp)
  have hPlay := fun W (vt vr vl vi vj : Value) (h : PGV W vt vr vl vi vj (exP 0)) (g : Nat) (hS : Seg W (some ⟨g, 0, none⟩) (([0, 0, 1, 1] : List Int).flatMap intE)) => play_any (exP 0) (exP_few 0) [0, 0, 1, 1] 4 4 (some ⟨g, 0, none⟩) rfl (by omega) vt vr vl vi vj W h hS
  have hV : playV (exP 0) [0, 0, 1, 1] = .tuple #[.agg (finL [0, 1, 1, 1]).toArray, .int .i64 0] := by unfold playV; rw [if_pos (exP_valid 0), exP_play]
  simp only [hV] at hPlay
  clear hV
  have HC : Hid ((finL [0, 1, 1, 1])[0]? = some (.int .i64 4) ∧ (finL [0, 1, 1, 1])[1]? = some (.int .i64 0) ∧ (finL [0, 1, 1, 1])[2]? = some (.int .i64 1) ∧ (finL [0, 1, 1, 1])[3]? = some (.int .i64 1)) := ⟨rfl, rfl, rfl, rfl⟩
  have HO : Hid (∀ v ∈ finL [0, 1, 1, 1], v.oneCell' = true) := finL_one _
  generalize finL [0, 1, 1, 1] = FV at *
  have t6 : True := trivial
  have t9 : True := trivial
  have t10 : True := trivial
  have t11 : True := trivial
  have t12 : True := trivial
  have t13 : True := trivial
  have t14 : True := trivial
  have t15 : True := trivial
  have t16 : True := trivial
  have t17 : True := trivial
  have t18 : True := trivial
  have tp : True := trivial
  have tq : True := trivial
  have tr : True := trivial
  have ts : True := trivial
  have tu : True := trivial
  have tv : True := trivial
  have tx : True := trivial
  go_enter Try.func35, Try.ntmps35
  go_wp2_with (first
    | (clear t6; refine wpList_build rfl (exec_buildOps rfl ⟨4, 0, 0, 0, 1⟩ ⟨3, 0, 0, 1, 0⟩ rfl rfl) ?_; intro W6 g6 F6 J6_6x; simp only [Act.put, List.setIfInBounds_toArray, List.set_cons_succ, List.set_cons_zero]; have J6_6 : IsS W6 g6 63 ([⟨4, 0, 0, 0, 1⟩, ⟨3, 0, 0, 1, 0⟩].flatMap op5L) := J6_6x; have B6 := F_b F6; clear F6 J6_6x )
    | (clear t9; refine wpList_build rfl (exec_buildOps rfl ⟨4, 0, 0, 1, 1⟩ ⟨3, 0, 0, 0, 0⟩ rfl rfl) ?_; intro W9 g9 F9 J9_9x; simp only [Act.put, List.setIfInBounds_toArray, List.set_cons_succ, List.set_cons_zero]; have J9_9 : IsS W9 g9 63 ([⟨4, 0, 0, 1, 1⟩, ⟨3, 0, 0, 0, 0⟩].flatMap op5L) := J9_9x; have J6_9 := J6_6.fresh F9; have B9 := F9.trans B6 B6.size; clear F9 J9_9x J6_6 B6)
    | (clear t10; refine wpList_build rfl (exec_build2v eOps _ _ rfl (slc g6 2) (slc g9 2) rfl rfl rfl rfl) ?_; intro W10 g10 F10 J10_10x; simp only [Act.put, List.setIfInBounds_toArray, List.set_cons_succ, List.set_cons_zero]; have J10_10 : IsS W10 g10 61 [slc g6 2, slc g9 2] := J10_10x; have J6_10 := J6_9.fresh F10; have J9_10 := J9_9.fresh F10; have B10 := F10.trans B9 B9.size; clear F10 J10_10x J6_9 J9_9 B9)
    | (clear t11; refine wpList_build rfl (exec_build1 eStr _ rfl (.string sEAX) rfl rfl) ?_; intro W11 g11 F11 J11_11x; simp only [Act.put, List.setIfInBounds_toArray, List.set_cons_succ, List.set_cons_zero]; have J11_11 : IsS W11 g11 9 [.string sEAX] := J11_11x; have J6_11 := J6_10.fresh F11; have J9_11 := J9_10.fresh F11; have J10_11 := J10_10.fresh F11; have B11 := F11.trans B10 B10.size; clear F11 J11_11x J6_10 J9_10 J10_10 B10)
    | (clear t12; refine wpList_build rfl (exec_build1 eStr _ rfl (.string sEAX) rfl rfl) ?_; intro W12 g12 F12 J12_12x; simp only [Act.put, List.setIfInBounds_toArray, List.set_cons_succ, List.set_cons_zero]; have J12_12 : IsS W12 g12 9 [.string sEAX] := J12_12x; have J6_12 := J6_11.fresh F12; have J9_12 := J9_11.fresh F12; have J10_12 := J10_11.fresh F12; have J11_12 := J11_11.fresh F12; have B12 := F12.trans B11 B11.size; clear F12 J12_12x J6_11 J9_11 J10_11 J11_11 B11)
    | (clear t13; refine wpList_build rfl (exec_build2v eStrs _ _ rfl (slc g11 1) (slc g12 1) rfl rfl rfl rfl) ?_; intro W13 g13 F13 J13_13x; simp only [Act.put, List.setIfInBounds_toArray, List.set_cons_succ, List.set_cons_zero]; have J13_13 : IsS W13 g13 24 [slc g11 1, slc g12 1] := J13_13x; have J6_13 := J6_12.fresh F13; have J9_13 := J9_12.fresh F13; have J10_13 := J10_12.fresh F13; have J11_13 := J11_12.fresh F13; have J12_13 := J12_12.fresh F13; have B13 := F13.trans B12 B12.size; clear F13 J13_13x J6_12 J9_12 J10_12 J11_12 J12_12 B12)
    | (clear t14; refine wpList_build rfl (exec_build2v eStr _ _ rfl (.string sX) (.string sY) rfl rfl rfl rfl) ?_; intro W14 g14 F14 J14_14x; simp only [Act.put, List.setIfInBounds_toArray, List.set_cons_succ, List.set_cons_zero]; have J14_14 : IsS W14 g14 9 [.string sX, .string sY] := J14_14x; have J6_14 := J6_13.fresh F14; have J9_14 := J9_13.fresh F14; have J10_14 := J10_13.fresh F14; have J11_14 := J11_13.fresh F14; have J12_14 := J12_13.fresh F14; have J13_14 := J13_13.fresh F14; have B14 := F14.trans B13 B13.size; clear F14 J14_14x J6_13 J9_13 J10_13 J11_13 J12_13 J13_13 B13)
    | (clear t15; refine wpList_build rfl (exec_build1 eInt _ rfl (.int .i64 0) rfl rfl) ?_; intro W15 g15 F15 J15_15x; simp only [Act.put, List.setIfInBounds_toArray, List.set_cons_succ, List.set_cons_zero]; have J15_15 : IsS W15 g15 2 [.int .i64 0] := J15_15x; have J6_15 := J6_14.fresh F15; have J9_15 := J9_14.fresh F15; have J10_15 := J10_14.fresh F15; have J11_15 := J11_14.fresh F15; have J12_15 := J12_14.fresh F15; have J13_15 := J13_14.fresh F15; have J14_15 := J14_14.fresh F15; have B15 := F15.trans B14 B14.size; clear F15 J15_15x J6_14 J9_14 J10_14 J11_14 J12_14 J13_14 J14_14 B14)
    | (clear t16; refine wpList_build rfl (exec_build1 eInt _ rfl (.int .i64 0) rfl rfl) ?_; intro W16 g16 F16 J16_16x; simp only [Act.put, List.setIfInBounds_toArray, List.set_cons_succ, List.set_cons_zero]; have J16_16 : IsS W16 g16 2 [.int .i64 0] := J16_16x; have J6_16 := J6_15.fresh F16; have J9_16 := J9_15.fresh F16; have J10_16 := J10_15.fresh F16; have J11_16 := J11_15.fresh F16; have J12_16 := J12_15.fresh F16; have J13_16 := J13_15.fresh F16; have J14_16 := J14_15.fresh F16; have J15_16 := J15_15.fresh F16; have B16 := F16.trans B15 B15.size; clear F16 J16_16x J6_15 J9_15 J10_15 J11_15 J12_15 J13_15 J14_15 J15_15 B15)
    | (clear t17; refine wpList_build rfl (exec_build2v eInts _ _ rfl (slc g15 1) (slc g16 1) rfl rfl rfl rfl) ?_; intro W17 g17 F17 J17_17x; simp only [Act.put, List.setIfInBounds_toArray, List.set_cons_succ, List.set_cons_zero]; have J17_17 : IsS W17 g17 26 [slc g15 1, slc g16 1] := J17_17x; have J6_17 := J6_16.fresh F17; have J9_17 := J9_16.fresh F17; have J10_17 := J10_16.fresh F17; have J11_17 := J11_16.fresh F17; have J12_17 := J12_16.fresh F17; have J13_17 := J13_16.fresh F17; have J14_17 := J14_16.fresh F17; have J15_17 := J15_16.fresh F17; have J16_17 := J16_16.fresh F17; have B17 := F17.trans B16 B16.size; clear F17 J17_17x J6_16 J9_16 J10_16 J11_16 J12_16 J13_16 J14_16 J15_16 J16_16 B16)
    | (clear t18; refine wpList_build rfl (exec_build2v eInt _ _ rfl (.int .i64 0) (.int .i64 0) rfl rfl rfl rfl) ?_; intro W18 g18 F18 J18_18x; simp only [Act.put, List.setIfInBounds_toArray, List.set_cons_succ, List.set_cons_zero]; have J18_18 : IsS W18 g18 2 [.int .i64 0, .int .i64 0] := J18_18x; have J6_18 := J6_17.fresh F18; have J9_18 := J9_17.fresh F18; have J10_18 := J10_17.fresh F18; have J11_18 := J11_17.fresh F18; have J12_18 := J12_17.fresh F18; have J13_18 := J13_17.fresh F18; have J14_18 := J14_17.fresh F18; have J15_18 := J15_17.fresh F18; have J16_18 := J16_17.fresh F18; have J17_18 := J17_17.fresh F18; have B18 := F18.trans B17 B17.size; clear F18 J18_18x J6_17 J9_17 J10_17 J11_17 J12_17 J13_17 J14_17 J15_17 J16_17 J17_17 B17)
    | (clear tp; refine wpList_valueX rfl (build_pg rfl rfl rfl rfl rfl rfl) ?_; simp only [Act.put, List.setIfInBounds_toArray, List.set_cons_succ, List.set_cons_zero])
    | (clear tq; refine wpList_allocS rfl 28 rfl [.slice none 0 0, .slice none 0 0, .slice none 0 0, .slice none 0 0, .slice none 0 0] zeroPg ?_; intro W19 b1 F19 P19; have K6 := J6_18.fresh F19; have K9 := J9_18.fresh F19; have K10 := J10_18.fresh F19; have K11 := J11_18.fresh F19; have K12 := J12_18.fresh F19; have K13 := J13_18.fresh F19; have K14 := J14_18.fresh F19; have K15 := J15_18.fresh F19; have K16 := J16_18.fresh F19; have K17 := J17_18.fresh F19; have K18 := J18_18.fresh F19; have B19 := F19.trans B18 B18.size; have hb1 : w.heap.size ≤ b1 := Nat.le_trans B18.size (Nat.le_of_eq F19.at'.symm); clear F19)
    | (clear tr; refine wpList_storeW rfl 28 _ _ rfl rfl [slc g10 2, slc g13 2, slc g14 2, slc g17 2, slc g18 2] rfl P19 rfl infoPg (by intro v hv; simp only [List.mem_cons, List.not_mem_nil, or_false] at hv; rcases hv with rfl | rfl | rfl | rfl | rfl <;> rfl) ?_; intro W20 U20 P20; have L6 := isS_updT K6 P19 (by decide) U20; have L9 := isS_updT K9 P19 (by decide) U20; have L10 := isS_updT K10 P19 (by decide) U20; have L11 := isS_updT K11 P19 (by decide) U20; have L12 := isS_updT K12 P19 (by decide) U20; have L13 := isS_updT K13 P19 (by decide) U20; have L14 := isS_updT K14 P19 (by decide) U20; have L15 := isS_updT K15 P19 (by decide) U20; have L16 := isS_updT K16 P19 (by decide) U20; have L17 := isS_updT K17 P19 (by decide) U20; have L18 := isS_updT K18 P19 (by decide) U20; have B20 := U20.trans B19 hb1; have hPG : PGV W20 (slc g10 2) (slc g13 2) (slc g14 2) (slc g17 2) (slc g18 2) (exP 0) := ⟨rows2 L10 (rowS L6) (rowS L9), rows2 L13 (rowS L11) (rowS L12), rowS L14, rows2 L17 (rowS L15) (rowS L16), rowS L18⟩; clear U20 P19)
    | (clear ts; refine wpList_loadW rfl 28 _ rfl rfl P20 _ Try.underlying28 rfl infoPg ?_)
    | (clear tu; refine wpList_build rfl (exec_build4I rfl 0 0 1 1 rfl rfl rfl rfl) ?_; intro W22 g22 F22 I22; simp only [Act.put, List.setIfInBounds_toArray, List.set_cons_succ, List.set_cons_zero]; have B22 := F22.trans B20 B20.size; have hPG2 := hPG.below (F_b F22); clear F22)
    | (go_at_call 32; refine (hPlay _ _ _ _ _ _ hPG2 g22 (seg_isS I22)).mono ?_; rintro e W23 ⟨rfl, B23x⟩; have B23 := Below.then B22 B23x; clear hPlay)
    | (clear tv; refine wpList_allocS rfl 80 rfl (finL []) zeroFin ?_; intro W24 b2 F24 I24; have B24 := F24.trans B23 B23.size; have hb2 : w.heap.size ≤ b2 := Nat.le_trans B23.size (Nat.le_of_eq F24.at'.symm); clear F24)
    | (clear tx; refine wpList_storeW rfl 80 _ _ rfl rfl FV rfl I24 (by rw [hfin, hz49]) (by rw [hfin]; exact infoFin) HO.out ?_; intro W25 U25 I25; have B25 := U25.trans B24 hb2; have y0 := (I25.cell 0).trans HC.out.1; have y1 := (I25.cell 1).trans HC.out.2.1; have y2 := (I25.cell 2).trans HC.out.2.2.1; have y3 := (I25.cell 3).trans HC.out.2.2.2; clear U25 I24))
  go_ret
  exact ⟨rfl, B25⟩
end Go.Proofs.Ytegpnicajlndlaa
/- ScBack: the law. -/
namespace Go.Proofs.Ytegpnicajlndlaa
open Go.RowKit M
set_option linter.unusedSimpArgs false
set_option linter.unusedVariables false

theorem stv_stb {w : World} {B : Nat} {s : ST} {gp gh gr gm gb : Nat} {rows : List (Nat × List Int)} {brows : List (Nat × List (Int × Int))} (h : STB w B s gp gh gr gm gb rows brows) : STV w s (slc gp s.pc.length) (slc gh s.ph.length) (slc gr s.regs.length) (slc gm s.mem.length) (slc gb s.buf.length) := by
  refine ⟨by rw [int_map]; exact row_isS h.pc, by rw [int_map]; exact row_isS h.ph, ⟨rowsC rows, by rw [h.er]; simp [rowsC], row_isS h.rg, fun j u xs hu hx => ?_⟩, by rw [int_map]; exact row_isS h.mm, ⟨rowsC brows, by rw [h.eb]; simp [rowsC], row_isS h.bf, fun j u xs hu hx => ?_⟩⟩
  · rw [h.er, List.getElem?_map] at hx
    unfold rowsC at hu
    rw [List.getElem?_map] at hu
    cases hr : rows[j]? with
    | none => rw [hr] at hx; cases hx
    | some x =>
      rw [hr] at hx hu
      cases hx; cases hu
      rw [int_map]
      exact row_isS (h.rr x (List.mem_of_getElem? hr))
  · rw [h.eb, List.getElem?_map] at hx
    unfold rowsC at hu
    rw [List.getElem?_map] at hu
    cases hr : brows[j]? with
    | none => rw [hr] at hx; cases hx
    | some x =>
      rw [hr] at hx hu
      cases hx; cases hu
      exact row_isS (h.bb x (List.mem_of_getElem? hr))
theorem wpList_loadGW {w : World} {b t : Nat} {cs : List Value} {ops : Array Oper} {rest : List Oper} {op : Oper} {a : Act} {Q : Exit → Act → World → Prop} (hw : Region.wanted op (yielded ops a.tmps) = true) (ty : TypeId) (x : Operand) (ho : op.op = .load ty x) (hx : a.eval x = .pointer (some ⟨b, 0, none⟩)) (hc : IsS w b t cs) (d : TypeDesc)
    (hu : Try.prog.underlying ty = some d) (hd : d.isRow = true) (hi : (Try.prog.info? ty).map (·.size) = some cs.length)
    (h : wpList Try.prog ops Q rest (a.put op.dst (.agg cs.toArray)) w) : wpList Try.prog ops Q (op :: rest) a w := by
  refine wpList_step fun K hK => ?_
  simp only [hw, if_true]
  have hr := run_loadAt_mid (P := Try.prog) w b 0 ty cs d (fun i u hu => by rw [Nat.zero_add]; exact (hc.cell i).trans hu) hu hd hi
  unfold Oper.wp execOp
  simp only [ho, hx, Sem.run_bind, hr, Result.andThen_ok, Sem.run_pure]
  exact hK _ _ h
theorem flat_bound {α : Type} (m : Nat) : ∀ (l : List (List α)), (∀ q ∈ l, q.length ≤ m) → l.flatten.length ≤ m * l.length
  | [], _ => by simp
  | q :: l, h => by
    rw [List.flatten_cons, List.length_append, List.length_cons, Nat.mul_succ]
    have h1 := h q (by simp)
    have h2 := flat_bound m l fun x hx => h x (List.mem_cons_of_mem _ hx)
    omega
theorem few_fits {p : PG} {s : ST} (hv : Vld p) (h : Fits (shpOf p) s) : s.Few := by
  have hl := shp_len hv
  have h4 := hv.n4
  have h16 := hv.l16
  have e1 := h.pc
  have e2 := h.ph
  have e3 := h.rg
  have e4 := h.bf
  have e5 : s.mem.length = p.locs.length := h.mm
  refine ⟨by omega, by omega, by omega, ?_, by omega, by omega, ?_⟩
  · have := flat_bound 8 s.regs fun q hq => by
      obtain ⟨i, hi, e⟩ := getDS_mem (d := []) hq
      have ht := (h.th i (by omega)).1
      rw [e] at ht
      have hr : (shpOf p).rgs.getD i 0 ≤ 8 := by
        obtain ⟨r, hr⟩ : ∃ r, p.regs[i]? = some r := ⟨_, List.getElem?_eq_getElem (by have := hv.rl; omega)⟩
        have := hv.few i r hr
        unfold shpOf
        simp [hr]
        exact this
      omega
    omega
  · have := flat_bound 64 s.buf fun q hq => by
      obtain ⟨i, hi, e⟩ := getDS_mem (d := []) hq
      have ht := (h.th i (by omega)).2.2.2.1
      rw [e] at ht
      exact ht
    omega
theorem text_size {s : ST} (hf : s.Few) (hl : s.pc.length = s.ph.length ∧ s.pc.length = s.regs.length) (hw : Wid s) : (⟨(textS s).toArray⟩ : ByteArray).size ≤ 1099511627776 := by
  have h1 := cod_len (wid_vals hl hw)
  have h2 := vals_len hf
  show (textS s).toArray.size ≤ _
  rw [List.size_toArray]
  unfold textS
  unfold cod at h1
  omega
theorem text_back {T : ByteArray} {s : ST} (h : textS s = T.data.toList) : (⟨(textS s).toArray⟩ : ByteArray) = T := by
  cases T with
  | mk d => rw [h, Array.toArray_toList]
end Go.Proofs.Ytegpnicajlndlaa

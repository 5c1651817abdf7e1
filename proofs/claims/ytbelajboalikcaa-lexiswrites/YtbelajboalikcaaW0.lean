/- The library's Builder at this program: copyCheck, WriteByte, WriteString. -/
import Derived.Test.YtbelajboalikcaaA2
import Derived.Shelf.Strings.Builder1
namespace Go.Proofs.Ytbelajboalikcaa
open Go.RowKit Go.Shelf M
set_option linter.unusedSimpArgs false
set_option linter.unusedVariables false

theorem info89 : (Try.prog.info? 89).map (·.size) = some 2 := by kernel_rfl
theorem lies89 : liesAt Try.prog Try.prog.depth 89 (2 / Try.prog.cellsOf 89) 0 89 1 = true := by kernel_rfl
theorem parts5 : ∃ i, Try.prog.info? 5 = some i ∧ i.zero = some (.int .u8 0) ∧ i.size = 1 ∧ i.bytes = 1 := by
  have h : (Try.prog.info? 5).map (fun i => (i.zero, i.size, i.bytes)) = some (some (.int .u8 0), 1, 1) := by kernel_rfl
  cases hq : Try.prog.info? 5 with
  | none => rw [hq] at h; simp at h
  | some i =>
    rw [hq] at h
    simp only [Option.map_some, Option.some.injEq, Prod.mk.injEq] at h
    exact ⟨i, rfl, h.1, h.2.1, h.2.2⟩

set_option maxRecDepth 100000 in
set_option maxHeartbeats 1000000 in
theorem check_used (b : Nat) (w : World) (h0 : w.cell? ⟨b, 0, none⟩ = some (.pointer (some ⟨b, 0, none⟩))) :
    Calls Try.prog 62 #[.pointer (some ⟨b, 0, none⟩)] w fun e w' => e = .returned (.tuple #[]) ∧ w' = w := by
  obtain ⟨j, hj, _⟩ := Option.map_eq_some_iff.1 info89
  go_enter Try.func62, Try.ntmps62
  go_wp2
  rw [Lib.run_neq_ptr_same w _ Try.underlying87 hj]
  go_wp2
  exact ⟨rfl, .tuple #[], (by simp [results, Try.results62, go_sem]), rfl, rfl⟩

set_option maxRecDepth 100000 in
set_option maxHeartbeats 1000000 in
theorem check_fresh (b : Nat) (w : World) (h0 : w.cell? ⟨b, 0, none⟩ = some (.pointer none)) (hsh : w.shape? b = some (89, 2)) (hfz : w.frozen? ⟨b, 0, none⟩ = false) :
    Calls Try.prog 62 #[.pointer (some ⟨b, 0, none⟩)] w fun e w' => e = .returned (.tuple #[]) ∧ w' = w.setCell ⟨b, 0, none⟩ (.pointer (some ⟨b, 0, none⟩)) := by
  obtain ⟨j, hj, hjs⟩ := Option.map_eq_some_iff.1 info89
  go_enter Try.func62, Try.ntmps62
  go_wp2
  rw [Lib.run_to_unsafe w ⟨b, 0, none⟩ Try.underlying87 Try.underlying113 hj (by rw [hjs]; decide) hsh (Nat.zero_lt_succ 1)]
  simp only [Result.andThen]
  rw [Oper.upon_value]
  go_wp2
  rw [run_callFunc_extern Try.func75 (by kernel_rfl) (by kernel_rfl) (by kernel_rfl) (e := Extern.AbiNoEscape.same) (by kernel_rfl), Lib.run_noEscape]
  simp only [Result.andThen]
  rw [Oper.upon_value]
  go_wp2
  rw [Lib.run_from_unsafe w ⟨b, 0, none⟩ Try.underlying113 Try.underlying87 hj hsh lies89]
  simp only [Result.andThen]
  rw [Oper.upon_value]
  go_wp2
  exact ⟨rfl, .tuple #[], (by simp [results, Try.results62, go_sem]), rfl, rfl⟩

theorem check_any (B b : Nat) (bs : List Value) (w : World) (h : Lib.IsBuilder 89 5 B b bs w) :
    Calls Try.prog 62 #[.pointer (some ⟨b, 0, none⟩)] w fun e w' => e = .returned (.tuple #[]) ∧ Lib.BuilderAt 89 5 B b (.pointer (some ⟨b, 0, none⟩)) bs w' ∧ Below B w w' ∧ w'.heap.size = w.heap.size := by
  rcases h with h | h
  · refine (check_fresh b w h.cell0 h.shape h.frozen0).mono ?_
    rintro e w' ⟨rfl, rfl⟩
    exact ⟨rfl, h.used _, (Below.refl B w).setCell (p := ⟨b, 0, none⟩) h.1 _, by simp⟩
  · refine (check_used b w h.cell0).mono ?_
    rintro e w' ⟨rfl, rfl⟩
    exact ⟨rfl, h, Below.refl B _, rfl⟩
theorem info61 : (Try.prog.info? 61).map (·.size) = some 1 := by kernel_rfl

theorem wpList_buildB {w : World} {ops : Array Oper} {rest : List Oper} {op : Oper} {a : Act} {Q : Exit → Act → World → Prop} (hgd : op.guard = none) (x : Operand) (ho : op.op = .buildSlice 61 1 #[(0, x)]) (c : Int) (hx : a.eval x = .int .u8 c)
    (h : ∀ W b, Fresh w W b → IsS W b 5 [.int .u8 c] → wpList Try.prog ops Q rest (a.put op.dst (.slice (some ⟨b, 0, none⟩) 1 1)) W) : wpList Try.prog ops Q (op :: rest) a w := by
  refine wpList_plain hgd fun K hK => ?_
  have hr : (execOp a.eval op).run Try.prog w = .ok (.value (.slice (some ⟨w.heap.size, 0, none⟩) 1 1)) (w.alloc (.cells [.int .u8 c].toArray 5)) := by
    generalize a.eval = ev at hx ⊢
    unfold execOp
    simp [ho, hx, go_sem, Value.cells]
  unfold Oper.wp
  rw [hr]
  exact hK _ _ (h _ _ (Fresh.alloc w _) (IsS.new w 5 _))
set_option maxRecDepth 100000 in
set_option maxHeartbeats 1000000 in
theorem writeByte_any (B b : Nat) (l : List UInt8) (c : UInt8) (w : World) (h : Lib.IsBuilder 89 5 B b (Lib.byteCells l) w) (hl : l.length ≤ 2097152) (hB : B ≤ w.heap.size) :
    Calls Try.prog 43 #[.pointer (some ⟨b, 0, none⟩), .int .u8 (c.toNat : Int)] w fun e w' => e = .returned .nilIface ∧ Lib.IsBuilder 89 5 B b (Lib.byteCells (l ++ [c])) w' ∧ Below B w w' := by
  obtain ⟨i0, hi, hz0, hz1, hz2⟩ := parts5
  have HC : Hid (Lib.byteCells (l ++ [c]) = Lib.byteCells l ++ [.int .u8 (c.toNat : Int)]) := (by show _ = _; simp [Lib.byteCells])
  have hbl : (Lib.byteCells l).length ≤ 2097152 := by simp [Lib.byteCells]; exact hl
  generalize Lib.byteCells l = bs at *
  go_enter Try.func43, Try.ntmps43
  go_wp2_with (go_at_call 62; refine (check_any B b bs _ h).mono ?_; rintro e w1 ⟨rfl, h1, hb1, hs1⟩; refine Hid.out ?_)
  refine Lib.hid ?_
  obtain ⟨hBb, v, hbk, hown, hne⟩ := h1
  obtain ⟨a0, c0, rfl⟩ := own_form hown
  have N1 : IsS w1 b 89 [.pointer (some ⟨b, 0, none⟩), .slice a0 bs.length c0] := hbk
  have c1 : w1.cell? ⟨b, 1, none⟩ = some (.slice a0 bs.length c0) := N1.cell 1
  go_wp2_with (first
    | (refine wpList_buildB rfl _ rfl (c.toNat : Int) rfl ?_; intro w4 b4 F4 N4; refine Hid.out ?_))
  refine Lib.hid ?_
  have hB4 : Below w1.heap.size w1 w4 := F4.trans (Below.refl _ _) (Nat.le_refl _)
  have hz4 := hB4.size
  refine wpList_append_own _ rfl _ _ 61 rfl B 5 i0 (.int .u8 0) 1 1 Try.underlying61 hi hz0 hz1 hz2 rfl (by decide) _ _ _ rfl (own_belowW hown hB4) ⟨b4, 0, none⟩ 1 1 [.int .u8 (c.toNat : Int)] rfl rfl (fun j u hj => by rw [Addr.add_mid, Nat.zero_add, N4.cell]; exact hj) (by intro u hu; simp at hu; subst hu; rfl) (by unfold maxLen; omega) (by omega) (by omega) ?_
  intro v' w2 hown' hgr _
  have N2 : IsS w2 b 89 [.pointer (some ⟨b, 0, none⟩), .slice a0 bs.length c0] := (hgr.block b (by have := N1.lt; omega) (fun e => hne e.symm)).trans (N1.grown hB4)
  have hB2 : Below B w w2 := (hb1.trans (hB4.mono (by omega))).grown hgr (by omega) (fun k hk => (hown.lt k hk).1)
  obtain ⟨a1, c2, rfl⟩ := own_form hown'
  go_wp2_with (first
    | (refine wpList_store1 rfl 61 _ _ rfl rfl (.slice a1 (bs.length + 1) c2) rfl N2 (by simp) info61 rfl ?_; intro w3 U3 N3))
  go_ret
  refine ⟨rfl, .inr ⟨hBb, _, N3, ?_, ?_⟩, U3.trans hB2 hBb⟩
  · rw [HC.out, List.length_append]
    exact own_updN hown' U3 (own_ne hown' N2 (by decide))
  · exact own_ne hown' N2 (by decide)

set_option maxRecDepth 100000 in
set_option maxHeartbeats 1000000 in
theorem writeString_any (B b : Nat) (l : List UInt8) (s : ByteArray) (w : World) (h : Lib.IsBuilder 89 5 B b (Lib.byteCells l) w) (hl : l.length + s.size ≤ 4194304) (hB : B ≤ w.heap.size) :
    Calls Try.prog 44 #[.pointer (some ⟨b, 0, none⟩), .string s] w fun e w' => e = .returned (.tuple #[.int .i64 s.size, .nilIface]) ∧ Lib.IsBuilder 89 5 B b (Lib.byteCells (l ++ s.data.toList)) w' ∧ Below B w w' := by
  obtain ⟨i0, hi, hz0, hz1, hz2⟩ := parts5
  have HC : Hid (Lib.byteCells (l ++ s.data.toList) = Lib.byteCells l ++ Lib.strCells s) := (by show _ = _; simp [Lib.byteCells, Lib.strCells])
  have HLN : Hid ((Lib.strCells s).length = s.size) := (by show _ = _; simp [Lib.strCells])
  have hbl : (Lib.byteCells l).length + s.size ≤ 4194304 := by simp [Lib.byteCells]; exact hl
  generalize Lib.byteCells l = bs at *
  go_enter Try.func44, Try.ntmps44
  go_wp2_with (go_at_call 62; refine (check_any B b bs _ h).mono ?_; rintro e w1 ⟨rfl, h1, hb1, hs1⟩; refine Hid.out ?_)
  refine Lib.hid ?_
  obtain ⟨hBb, v, hbk, hown, hne⟩ := h1
  have N1 : IsS w1 b 89 [.pointer (some ⟨b, 0, none⟩), v] := hbk
  have c1 : w1.cell? ⟨b, 1, none⟩ = some v := N1.cell 1
  go_wp2_with (at_builtin; refine Lib.wpList_append_own_string _ rfl _ _ 61 9 rfl B 5 i0 Try.underlying61 Try.underlying9 hi hz0 hz1 hz2 _ _ _ rfl hown s rfl ?c3 ?c4 ?c5 ?_)
  case c3 => unfold maxLen; omega
  case c4 => omega
  case c5 => omega
  intro v' w2 hown' hgr _
  have N2 : IsS w2 b 89 [.pointer (some ⟨b, 0, none⟩), v] := (hgr.block b N1.lt (fun e => hne e.symm)).trans N1
  have hB2 : Below B w w2 := hb1.grown hgr (by omega) (fun k hk => (hown.lt k hk).1)
  obtain ⟨a1, c2, rfl⟩ := own_form hown'
  go_wp2_with (first
    | (refine wpList_store1 rfl 61 _ _ rfl rfl (.slice a1 (bs.length + s.size) c2) rfl N2 (by simp) info61 rfl ?_; intro w3 U3 N3))
  go_ret2
  refine ⟨rfl, .inr ⟨hBb, _, N3, ?_, ?_⟩, U3.trans hB2 hBb⟩
  · rw [HC.out, List.length_append, HLN.out]
    exact own_updN hown' U3 (own_ne hown' N2 (by decide))
  · exact own_ne hown' N2 (by decide)
end Go.Proofs.Ytbelajboalikcaa

/- The library's Builder at this program, told with what stays: copyCheck, WriteByte, WriteString. -/
import Derived.Test.YtjnbhcakfenbhaaDoorFD
import Derived.Test.YtjnbhcakfenbhaaDoorP1
import Derived.Shelf.Strings.Builder1
namespace Go.Proofs.YtjnbhcakfenbhaaDoor
open Go.RowKit Go.Shelf M
set_option linter.unusedSimpArgs false
set_option linter.unusedVariables false

theorem infoBld : (Tryd.prog.info? 56).map (·.size) = some 2 := by kernel_rfl
theorem liesBld : liesAt Tryd.prog Tryd.prog.depth 56 (2 / Tryd.prog.cellsOf 56) 0 56 1 = true := by kernel_rfl
theorem parts5 : ∃ i, Tryd.prog.info? 5 = some i ∧ i.zero = some (.int .u8 0) ∧ i.size = 1 ∧ i.bytes = 1 := by
  have h : (Tryd.prog.info? 5).map (fun i => (i.zero, i.size, i.bytes)) = some (some (.int .u8 0), 1, 1) := by kernel_rfl
  cases hq : Tryd.prog.info? 5 with
  | none => rw [hq] at h; simp at h
  | some i =>
    rw [hq] at h
    simp only [Option.map_some, Option.some.injEq, Prod.mk.injEq] at h
    exact ⟨i, rfl, h.1, h.2.1, h.2.2⟩

set_option maxRecDepth 100000 in
set_option maxHeartbeats 1000000 in
theorem check_used (b : Nat) (w : World) (h0 : w.cell? ⟨b, 0, none⟩ = some (.pointer (some ⟨b, 0, none⟩))) :
    Calls Tryd.prog 37 #[.pointer (some ⟨b, 0, none⟩)] w fun e w' => e = .returned (.tuple #[]) ∧ w' = w := by
  obtain ⟨j, hj, _⟩ := Option.map_eq_some_iff.1 infoBld
  go_enter Tryd.func37, Tryd.ntmps37
  go_wp2
  rw [Lib.run_neq_ptr_same w _ Tryd.underlying53 hj]
  go_wp2
  exact ⟨rfl, .tuple #[], (by simp [results, Tryd.results37, go_sem]), rfl, rfl⟩

set_option maxRecDepth 100000 in
set_option maxHeartbeats 1000000 in
theorem check_fresh (b : Nat) (w : World) (h0 : w.cell? ⟨b, 0, none⟩ = some (.pointer none)) (hsh : w.shape? b = some (56, 2)) (hfz : w.frozen? ⟨b, 0, none⟩ = false) :
    Calls Tryd.prog 37 #[.pointer (some ⟨b, 0, none⟩)] w fun e w' => e = .returned (.tuple #[]) ∧ w' = w.setCell ⟨b, 0, none⟩ (.pointer (some ⟨b, 0, none⟩)) := by
  obtain ⟨j, hj, hjs⟩ := Option.map_eq_some_iff.1 infoBld
  go_enter Tryd.func37, Tryd.ntmps37
  go_wp2
  rw [Lib.run_to_unsafe w ⟨b, 0, none⟩ Tryd.underlying53 Tryd.underlying100 hj (by rw [hjs]; decide) hsh (Nat.zero_lt_succ 1)]
  simp only [Result.andThen]
  rw [Oper.upon_value]
  go_wp2
  rw [run_callFunc_extern Tryd.func58 (by kernel_rfl) (by kernel_rfl) (by kernel_rfl) (e := Extern.AbiNoEscape.same) (by kernel_rfl), Lib.run_noEscape]
  simp only [Result.andThen]
  rw [Oper.upon_value]
  go_wp2
  rw [Lib.run_from_unsafe w ⟨b, 0, none⟩ Tryd.underlying100 Tryd.underlying53 hj hsh liesBld]
  simp only [Result.andThen]
  rw [Oper.upon_value]
  go_wp2
  exact ⟨rfl, .tuple #[], (by simp [results, Tryd.results37, go_sem]), rfl, rfl⟩

theorem infoBy : (Tryd.prog.info? 54).map (·.size) = some 1 := by kernel_rfl

theorem wpList_buildB {w : World} {ops : Array Oper} {rest : List Oper} {op : Oper} {a : Act} {Q : Exit → Act → World → Prop} (hgd : op.guard = none) (x : Operand) (ho : op.op = .buildSlice 54 1 #[(0, x)]) (c : Int) (hx : a.eval x = .int .u8 c)
    (h : ∀ W b, Fresh w W b → IsS W b 5 [.int .u8 c] → wpList Tryd.prog ops Q rest (a.put op.dst (.slice (some ⟨b, 0, none⟩) 1 1)) W) : wpList Tryd.prog ops Q (op :: rest) a w := by
  refine wpList_plain hgd fun K hK => ?_
  have hr : (execOp a.eval op).run Tryd.prog w = .ok (.value (.slice (some ⟨w.heap.size, 0, none⟩) 1 1)) (w.alloc (.cells [.int .u8 c].toArray 5)) := by
    generalize a.eval = ev at hx ⊢
    unfold execOp
    simp [ho, hx, go_sem, Value.cells]
  unfold Oper.wp
  rw [hr]
  exact hK _ _ (h _ _ (Fresh.alloc w _) (IsS.new w 5 _))

/-- A builder of one's own: its bytes lie in a row of its own. -/
structure BW (w : World) (B b : Nat) (l : List UInt8) (v : Value) : Prop where
  hB : B ≤ b
  blk : ∃ p, (p = Value.pointer none ∨ p = .pointer (some ⟨b, 0, none⟩)) ∧ IsS w b 56 [p, v]
  own : w.ownsRow B 5 1 v l.length (Lib.byteCells l)
theorem BW.ne {w : World} {B b : Nat} {l : List UInt8} {v : Value} (h : BW w B b l v) : v.ownBlock ≠ some b := by
  obtain ⟨p, _, h2⟩ := h.blk
  exact own_ne h.own h2 (by decide)
theorem BW.below {w w' : World} {B b : Nat} {l : List UInt8} {v : Value} (h : BW w B b l v) (hb : Below w.heap.size w w') : BW w' B b l v := by
  obtain ⟨p, h1, h2⟩ := h.blk
  exact ⟨h.hB, ⟨p, h1, h2.grown hb⟩, own_belowW h.own hb⟩
theorem BW.upd {w w' : World} {B b b' : Nat} {l : List UInt8} {v : Value} (h : BW w B b l v) (U : Upd w w' b') (h1 : b ≠ b') (h2 : v.ownBlock ≠ some b') : BW w' B b l v := by
  obtain ⟨p, h3, h4⟩ := h.blk
  exact ⟨h.hB, ⟨p, h3, h4.upd U h1⟩, own_updN h.own U h2⟩
theorem BW.lib {w : World} {B b : Nat} {l : List UInt8} {v : Value} (h : BW w B b l v) : Lib.IsBuilder 56 5 B b (Lib.byteCells l) w := by
  obtain ⟨p, h1, h2⟩ := h.blk
  have hl : (Lib.byteCells l).length = l.length := by simp [Lib.byteCells]
  rcases h1 with rfl | rfl
  · exact .inl ⟨h.hB, v, h2, by rw [hl]; exact h.own, h.ne⟩
  · exact .inr ⟨h.hB, v, h2, by rw [hl]; exact h.own, h.ne⟩
theorem check_own {B b : Nat} {l : List UInt8} {v : Value} {w : World} (h : BW w B b l v) :
    Calls Tryd.prog 37 #[.pointer (some ⟨b, 0, none⟩)] w fun e w' => e = .returned (.tuple #[]) ∧ IsS w' b 56 [.pointer (some ⟨b, 0, none⟩), v] ∧ w'.ownsRow B 5 1 v l.length (Lib.byteCells l) ∧ Upd w w' b := by
  obtain ⟨p, h1, h2⟩ := h.blk
  rcases h1 with rfl | rfl
  · refine (check_fresh b w (h2.cell 0) (by have h2' : w.heap[b]? = some (.cells #[.pointer none, v] 56 (0, 0)) := h2; simp [World.shape?, h2']) (h2.frozen 0)).mono ?_
    rintro e w' ⟨rfl, rfl⟩
    exact ⟨rfl, h2.set1 0 _, own_updN h.own (Upd.setCell w b 0 _) h.ne, Upd.setCell w b 0 _⟩
  · refine (check_used b w (h2.cell 0)).mono ?_
    rintro e w' ⟨rfl, rfl⟩
    exact ⟨rfl, h2, h.own, Upd.refl _ _⟩
theorem run_appBy {w : World} (B : Nat) (v : Value) (n : Nat) (xs : List Value) (hown : w.ownsRow B 5 1 v n xs) (b c : Nat) (u : Value) (hu1 : u.oneCell' = true) (hb : IsS w b 5 [u]) (hn : n ≤ 33554432) (hB : B ≤ w.heap.size) (ty : TypeId) :
    ∃ v' w', (Builtin.append_ #[54, 54] ty #[v, .slice (some ⟨b, 0, none⟩) 1 c]).run Tryd.prog w = .ok v' w' ∧ w'.ownsRow B 5 1 v' (n + 1) (xs ++ [u]) ∧ Step none v.ownBlock v'.ownBlock w w' := by
  obtain ⟨i0, hi, hz, hs, hby⟩ := parts5
  have hnews : ∀ j x, [u][j]? = some x → w.cell? ((⟨b, 0, none⟩ : Addr).add j) = some x := fun j x hj => by rw [Addr.add_mid, Nat.zero_add, hb.cell]; exact hj
  have h1 : ∀ x ∈ [u], x.oneCell' = true := by intro x hx; simp at hx; subst hx; exact hu1
  obtain ⟨v', w', hr, ho, hg, _⟩ := run_append_own (P := Tryd.prog) w B 54 ty 5 i0 (.int .u8 0) 1 1 Tryd.underlying54 hi hz hs hby rfl (by decide) v n xs hown ⟨b, 0, none⟩ 1 c [u] rfl hnews h1 (by unfold maxLen; omega) (by omega) hB
  refine ⟨v', w', hr, ho, hg.os, hg.tape, hg.output, hg.size, fun k hk _ h2 => hg.block k hk h2, ?_⟩
  rcases hown.2 with ⟨rfl, hn0⟩ | ⟨g, cap, cur, rfl, hbg, hgc, hnc, hcm, hcs, htake⟩
  · have h2 := run_append_nil (P := Tryd.prog) w 54 ty 5 i0 _ Tryd.underlying54 hi hz ⟨b, 0, none⟩ 1 c [u] (by rw [hs]; rfl) hnews (by omega) (by omega) (by rw [hby]; omega)
    rw [hr] at h2
    injection h2 with e1 e2
    rw [e1]
    exact .inr ⟨w.heap.size, rfl, Nat.le_refl _⟩
  · by_cases hroom : n + 1 ≤ cap
    · have h2 := run_append_room (P := Tryd.prog) w 54 ty 5 i0 Tryd.underlying54 hi g n cap cur hgc ⟨b, 0, none⟩ 1 c [u] (by rw [hs]; rfl) hnews h1 hroom (by rw [hs, hcs]; show n * 1 + 1 ≤ cap * 1; omega)
      rw [hr] at h2
      injection h2 with e1 e2
      rw [e1]
      exact .inl rfl
    · have h2 := run_append_grow (P := Tryd.prog) w 54 ty 5 i0 _ Tryd.underlying54 hi hz ⟨g, 0, none⟩ n cap xs (by rw [hs]; exact hown.1) (hown.cells (g := g) rfl) ⟨b, 0, none⟩ 1 c [u] (by rw [hs]; rfl) hnews (by omega) (by omega) (growslice_fits (by omega) (by rw [hby]; omega))
      rw [hr] at h2
      injection h2 with e1 e2
      rw [e1]
      exact .inr ⟨w.heap.size, rfl, Nat.le_refl _⟩
theorem run_appSt {w : World} (B : Nat) (v : Value) (n : Nat) (xs : List Value) (hown : w.ownsRow B 5 1 v n xs) (s : ByteArray) (hn : n + s.size ≤ 33554432) (hB : B ≤ w.heap.size) (ty : TypeId) :
    ∃ v' w', (Builtin.append_ #[54, 9] ty #[v, .string s]).run Tryd.prog w = .ok v' w' ∧ w'.ownsRow B 5 1 v' (n + s.size) (xs ++ Lib.strCells s) ∧ Step none v.ownBlock v'.ownBlock w w' := by
  obtain ⟨i0, hi, hz, hs, hby⟩ := parts5
  obtain ⟨v', w', hr, ho, hg, hnil⟩ := Lib.run_append_own_string (P := Tryd.prog) w B 54 9 ty 5 i0 Tryd.underlying54 Tryd.underlying9 hi hz hs hby v n xs hown s (by unfold maxLen; omega) (by omega) hB
  refine ⟨v', w', hr, ho, hg.os, hg.tape, hg.output, hg.size, fun k hk _ h2 => hg.block k hk h2, ?_⟩
  rcases hown.2 with ⟨rfl, hn0⟩ | ⟨g, cap, cur, rfl, hbg, hgc, hnc, hcm, hcs, htake⟩
  · by_cases h0 : s.size = 0
    · have := hnil.2 ⟨rfl, h0⟩
      rw [this]
      exact .inl rfl
    · have h2 := run_append_nil_string (P := Tryd.prog) w 54 9 ty 5 i0 (.int .u8 0) Tryd.underlying54 Tryd.underlying9 hi hz s (by omega) (by omega) (by rw [hby]; omega)
      rw [hr] at h2
      injection h2 with e1 e2
      rw [e1]
      exact .inr ⟨w.heap.size, rfl, Nat.le_refl _⟩
  · have hcs' : cur.size = cap := by simpa using hcs
    by_cases hroom : n + s.size ≤ cap
    · have h2 := Lib.run_append_room_string (P := Tryd.prog) w 54 9 ty 5 i0 Tryd.underlying54 Tryd.underlying9 hi hs g n cap cur hgc s hroom (by omega)
      rw [hr] at h2
      injection h2 with e1 e2
      rw [e1]
      exact .inl rfl
    · have hxl : xs.length = n := by simpa using hown.1
      have h2 := Lib.run_append_grow_string (P := Tryd.prog) w 54 9 ty 5 i0 (.int .u8 0) Tryd.underlying54 Tryd.underlying9 hi hz ⟨g, 0, none⟩ n cap xs (by rw [hs]; simpa using hxl) (hown.cells (g := g) rfl) s (by omega) (by omega) (by rw [hby]; exact growslice_fits (by omega) (by omega))
      rw [hr] at h2
      injection h2 with e1 e2
      rw [e1]
      exact .inr ⟨w.heap.size, rfl, Nat.le_refl _⟩
section
variable {w : World} {ops : Array Oper} {rest : List Oper} {op : Oper} {a : Act} {Q : Exit → Act → World → Prop}
theorem wpList_appBy (hgd : op.guard = none) (s x : Operand) (ho : op.op = .call { callee := .builtin .append, args := #[s, x], argTypes := #[54, 54] })
    (B : Nat) (v : Value) (n : Nat) (xs : List Value) (hs : a.eval s = v) (hown : w.ownsRow B 5 1 v n xs) (b c : Nat) (u : Value) (hu1 : u.oneCell' = true) (hx : a.eval x = .slice (some ⟨b, 0, none⟩) 1 c) (hb : IsS w b 5 [u]) (hn : n ≤ 33554432) (hB : B ≤ w.heap.size)
    (h : ∀ v' w', w'.ownsRow B 5 1 v' (n + 1) (xs ++ [u]) → Step none v.ownBlock v'.ownBlock w w' → wpList Tryd.prog ops Q rest (a.put op.dst v') w') : wpList Tryd.prog ops Q (op :: rest) a w := by
  refine wpList_plain hgd fun K hK => ?_
  obtain ⟨v', w', hr, h1, h2⟩ := run_appBy B v n xs hown b c u hu1 hb hn hB op.type
  unfold Oper.wp execOp
  simp only [ho, resolve, invoke, builtin, Sem.run_bind, Sem.run_pure, Result.andThen_ok, List.map_toArray, List.map_cons, List.map_nil, hs, hx, hr]
  exact hK _ _ (h v' w' h1 h2)
theorem wpList_appSt (hgd : op.guard = none) (s x : Operand) (ho : op.op = .call { callee := .builtin .append, args := #[s, x], argTypes := #[54, 9] })
    (B : Nat) (v : Value) (n : Nat) (xs : List Value) (hs : a.eval s = v) (hown : w.ownsRow B 5 1 v n xs) (t : ByteArray) (hx : a.eval x = .string t) (hn : n + t.size ≤ 33554432) (hB : B ≤ w.heap.size)
    (h : ∀ v' w', w'.ownsRow B 5 1 v' (n + t.size) (xs ++ Lib.strCells t) → Step none v.ownBlock v'.ownBlock w w' → wpList Tryd.prog ops Q rest (a.put op.dst v') w') : wpList Tryd.prog ops Q (op :: rest) a w := by
  refine wpList_plain hgd fun K hK => ?_
  obtain ⟨v', w', hr, h1, h2⟩ := run_appSt B v n xs hown t hn hB op.type
  unfold Oper.wp execOp
  simp only [ho, resolve, invoke, builtin, Sem.run_bind, Sem.run_pure, Result.andThen_ok, List.map_toArray, List.map_cons, List.map_nil, hs, hx, hr]
  exact hK _ _ (h v' w' h1 h2)
end
set_option maxRecDepth 100000 in
set_option maxHeartbeats 1000000 in
theorem writeByte_own {B b : Nat} {l : List UInt8} {v : Value} (c : UInt8) {w : World} (h : BW w B b l v) (hl : l.length ≤ 16777216) (hB : B ≤ w.heap.size) :
    Calls Tryd.prog 19 #[.pointer (some ⟨b, 0, none⟩), .int .u8 (c.toNat : Int)] w fun e w' => e = .returned .nilIface ∧ ∃ v', BW w' B b (l ++ [c]) v' ∧ Step (some b) v.ownBlock v'.ownBlock w w' := by
  have hBb := h.hB
  have cC := check_own h
  obtain ⟨a0, c0, rfl⟩ := own_form h.own
  have HL : Hid ((l ++ [c]).length = l.length + 1) := (by show _ = _; simp)
  have HC : Hid (Lib.byteCells (l ++ [c]) = Lib.byteCells l ++ [.int .u8 (c.toNat : Int)]) := (by show _ = _; simp [Lib.byteCells])
  clear h
  go_enter Tryd.func19, Tryd.ntmps19
  go_wp2_with (first
    | (go_at_call 37; refine cC.mono ?_; rintro e w1 ⟨rfl, N1, O1x, U1⟩; have O1 : Hid (w1.ownsRow B 5 1 (.slice a0 l.length c0) l.length (Lib.byteCells l)) := O1x; have S1 : Hid (Step (some b) (Value.slice a0 l.length c0).ownBlock (Value.slice a0 l.length c0).ownBlock w w1) := Step.of_upd U1; have hB1 : B ≤ w1.heap.size := (by rw [U1.size]; exact hB); have c1 : w1.cell? ⟨b, 1, none⟩ = some (.slice a0 l.length c0) := N1.cell 1; clear O1x U1 cC)
    | (refine wpList_buildB rfl _ rfl (c.toNat : Int) rfl ?_; intro w4 b4 F4 N4; have B4 := F4.trans (Below.refl _ w1) (Nat.le_refl _); have O4 : Hid (w4.ownsRow B 5 1 (.slice a0 l.length c0) l.length (Lib.byteCells l)) := own_belowW O1.out B4; have S4 : Hid (Step (some b) (Value.slice a0 l.length c0).ownBlock (Value.slice a0 l.length c0).ownBlock w w4) := S1.out.comp (Step.of_below B4); have N5 := N1.grown B4; have hB4 : B ≤ w4.heap.size := Nat.le_trans hB1 B4.size; clear F4 B4 O1 S1 c1)
    | (at_builtin; refine wpList_appBy rfl _ _ rfl B (.slice a0 l.length c0) l.length (Lib.byteCells l) rfl O4.out b4 1 (.int .u8 (c.toNat : Int)) rfl rfl N4 (by omega) hB4 ?_; intro v6 w6 O6x S6x; have N6 : IsS w6 b 56 [.pointer (some ⟨b, 0, none⟩), .slice a0 l.length c0] := N5.step S6x (by simp) (fun e => own_ne O4.out N5 (by decide) e.symm); have S6 : Hid (Step (some b) (Value.slice a0 l.length c0).ownBlock v6.ownBlock w w6) := S4.out.comp S6x.mono; have O6 : Hid (w6.ownsRow B 5 1 v6 (l.length + 1) (Lib.byteCells l ++ [.int .u8 (c.toNat : Int)])) := O6x; clear O6x S6x O4 S4 N5 N4; refine Hid.out ?_))
  refine Lib.hid ?_
  obtain ⟨a1, c2, rfl⟩ := own_form O6.out
  go_wp2_with (first
    | (refine wpList_store1 rfl 54 _ _ rfl rfl (.slice a1 (l.length + 1) c2) rfl N6 (by simp) infoBy rfl ?_; intro w7 U7 N7))
  go_ret
  refine ⟨rfl, _, ⟨hBb, ⟨_, .inr rfl, N7⟩, ?_⟩, S6.out.comp (Step.of_upd U7)⟩
  rw [HL.out, HC.out]
  exact own_updN O6.out U7 (own_ne O6.out N6 (by decide))
set_option maxRecDepth 100000 in
set_option maxHeartbeats 1000000 in
theorem writeString_own {B b : Nat} {l : List UInt8} {v : Value} (s : ByteArray) {w : World} (h : BW w B b l v) (hl : l.length + s.size ≤ 33554432) (hB : B ≤ w.heap.size) :
    Calls Tryd.prog 21 #[.pointer (some ⟨b, 0, none⟩), .string s] w fun e w' => e = .returned (.tuple #[.int .i64 s.size, .nilIface]) ∧ ∃ v', BW w' B b (l ++ s.data.toList) v' ∧ Step (some b) v.ownBlock v'.ownBlock w w' := by
  have hBb := h.hB
  have cC := check_own h
  obtain ⟨a0, c0, rfl⟩ := own_form h.own
  have HL : Hid ((l ++ s.data.toList).length = l.length + s.size) := (by show _ = _; simp)
  have HC : Hid (Lib.byteCells (l ++ s.data.toList) = Lib.byteCells l ++ Lib.strCells s) := (by show _ = _; simp [Lib.byteCells, Lib.strCells])
  clear h
  go_enter Tryd.func21, Tryd.ntmps21
  go_wp2_with (first
    | (go_at_call 37; refine cC.mono ?_; rintro e w1 ⟨rfl, N1, O1x, U1⟩; have O1 : Hid (w1.ownsRow B 5 1 (.slice a0 l.length c0) l.length (Lib.byteCells l)) := O1x; have S1 : Hid (Step (some b) (Value.slice a0 l.length c0).ownBlock (Value.slice a0 l.length c0).ownBlock w w1) := Step.of_upd U1; have hB1 : B ≤ w1.heap.size := (by rw [U1.size]; exact hB); have c1 : w1.cell? ⟨b, 1, none⟩ = some (.slice a0 l.length c0) := N1.cell 1; clear O1x U1 cC)
    | (at_builtin; refine wpList_appSt rfl _ _ rfl B (.slice a0 l.length c0) l.length (Lib.byteCells l) rfl O1.out s rfl (by omega) hB1 ?_; intro v6 w6 O6x S6x; have N6 : IsS w6 b 56 [.pointer (some ⟨b, 0, none⟩), .slice a0 l.length c0] := N1.step S6x (by simp) (fun e => own_ne O1.out N1 (by decide) e.symm); have S6 : Hid (Step (some b) (Value.slice a0 l.length c0).ownBlock v6.ownBlock w w6) := S1.out.comp S6x.mono; have O6 : Hid (w6.ownsRow B 5 1 v6 (l.length + s.size) (Lib.byteCells l ++ Lib.strCells s)) := O6x; clear O6x S6x O1 S1 N1; refine Hid.out ?_))
  refine Lib.hid ?_
  obtain ⟨a1, c2, rfl⟩ := own_form O6.out
  go_wp2_with (first
    | (refine wpList_store1 rfl 54 _ _ rfl rfl (.slice a1 (l.length + s.size) c2) rfl N6 (by simp) infoBy rfl ?_; intro w7 U7 N7))
  go_ret2
  refine ⟨rfl, _, ⟨hBb, ⟨_, .inr rfl, N7⟩, ?_⟩, S6.out.comp (Step.of_upd U7)⟩
  rw [HL.out, HC.out]
  exact own_updN O6.out U7 (own_ne O6.out N6 (by decide))
end Go.Proofs.YtjnbhcakfenbhaaDoor

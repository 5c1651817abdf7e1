/- Several texts in one: BU, BV, GR, D1, D2, D3, D4, D0. -/
import Derived.Test.YtdjlfpkemdiadaaDoorQI
import Derived.Test.YtdjlfpkemdiadaaDoorQF
import Derived.Lib.BufSteps
import Derived.Shelf.Strings.Builder1
import Derived.Test.YtdjlfpkemdiadaaDoorQZ
import Derived.Test.YtdjlfpkemdiadaaDoorRlY0
import Derived.Test.YtdjlfpkemdiadaaDoorQE
import Derived.Test.YtdjlfpkemdiadaaDoorEK17
import Derived.Test.YtdjlfpkemdiadaaDoorFF17
/- The library's Builder at this program: copyCheck, WriteString. -/
namespace Go.Proofs.YtdjlfpkemdiadaaDoor
open Go.RowKit Go.Shelf M
set_option linter.unusedSimpArgs false
set_option linter.unusedVariables false

theorem own_updN {W W' : World} {base e s n b : Nat} {v : Value} {xs : List Value} (h : W.ownsRow base e s v n xs) (U : Upd W W' b) (hb : v.ownBlock ≠ some b) : W'.ownsRow base e s v n xs := by
  refine ⟨h.1, ?_⟩
  rcases h.2 with hn | ⟨g, cap, cur, rfl, hg, hh, rest⟩
  · exact Or.inl hn
  · exact Or.inr ⟨g, cap, cur, rfl, hg, (U.block g (fun e => hb (by rw [← e]; rfl))).trans hh, rest⟩
theorem own_belowW {W W' : World} {base e s n : Nat} {v : Value} {xs : List Value} (h : W.ownsRow base e s v n xs) (hb : Below W.heap.size W W') : W'.ownsRow base e s v n xs := by
  refine ⟨h.1, ?_⟩
  rcases h.2 with hn | ⟨g, cap, cur, rfl, hg, hh, rest⟩
  · exact Or.inl hn
  · exact Or.inr ⟨g, cap, cur, rfl, hg, (hb.block g (Array.getElem?_eq_some_iff.1 hh).1).trans hh, rest⟩
theorem own_ne {W : World} {base e s n b t : Nat} {v : Value} {xs cs : List Value} (h : W.ownsRow base e s v n xs) (hc : IsS W b t cs) (hte : t ≠ e) : v.ownBlock ≠ some b := by
  rcases h.2 with ⟨rfl, _⟩ | ⟨g, cap, cur, rfl, hg, hh, rest⟩
  · intro e; cases e
  · intro e'
    cases e'
    rw [show W.heap[g]? = _ from hc] at hh
    cases hh
    exact hte rfl
theorem infoBl : (Tryd.prog.info? 80).map (·.size) = some 2 := by kernel_rfl
theorem liesBl : liesAt Tryd.prog Tryd.prog.depth 80 (2 / Tryd.prog.cellsOf 80) 0 80 1 = true := by kernel_rfl
theorem parts5 : ∃ i, Tryd.prog.info? 5 = some i ∧ i.zero = some (.int .u8 0) ∧ i.size = 1 ∧ i.bytes = 1 := by
  have h : (Tryd.prog.info? 5).map (fun i => (i.zero, i.size, i.bytes)) = some (some (.int .u8 0), 1, 1) := by kernel_rfl
  cases hq : Tryd.prog.info? 5 with
  | none => rw [hq] at h; simp at h
  | some i =>
    rw [hq] at h
    simp only [Option.map_some, Option.some.injEq, Prod.mk.injEq] at h
    exact ⟨i, rfl, h.1, h.2.1, h.2.2⟩

set_option maxRecDepth 100000 in
set_option maxHeartbeats 1000000 in
theorem bcheck_used (b : Nat) (w : World) (h0 : w.cell? ⟨b, 0, none⟩ = some (.pointer (some ⟨b, 0, none⟩))) :
    Calls Tryd.prog 76 #[.pointer (some ⟨b, 0, none⟩)] w fun e w' => e = .returned (.tuple #[]) ∧ w' = w := by
  obtain ⟨j, hj, _⟩ := Option.map_eq_some_iff.1 infoBl
  go_enter Tryd.func76, Tryd.ntmps76
  go_wp2
  rw [Lib.run_neq_ptr_same w _ Tryd.underlying77 hj]
  go_wp2
  exact ⟨rfl, .tuple #[], (by simp [results, Tryd.results76, go_sem]), rfl, rfl⟩

set_option maxRecDepth 100000 in
set_option maxHeartbeats 1000000 in
theorem bcheck_fresh (b : Nat) (w : World) (h0 : w.cell? ⟨b, 0, none⟩ = some (.pointer none)) (hsh : w.shape? b = some (80, 2)) (hfz : w.frozen? ⟨b, 0, none⟩ = false) :
    Calls Tryd.prog 76 #[.pointer (some ⟨b, 0, none⟩)] w fun e w' => e = .returned (.tuple #[]) ∧ w' = w.setCell ⟨b, 0, none⟩ (.pointer (some ⟨b, 0, none⟩)) := by
  obtain ⟨j, hj, hjs⟩ := Option.map_eq_some_iff.1 infoBl
  go_enter Tryd.func76, Tryd.ntmps76
  go_wp2
  rw [Lib.run_to_unsafe w ⟨b, 0, none⟩ Tryd.underlying77 Tryd.underlying125 hj (by rw [hjs]; decide) hsh (Nat.zero_lt_succ 1)]
  simp only [Result.andThen]
  rw [Oper.upon_value]
  go_wp2
  rw [run_callFunc_extern Tryd.func94 (by kernel_rfl) (by kernel_rfl) (by kernel_rfl) (e := Extern.AbiNoEscape.same) (by kernel_rfl), Lib.run_noEscape]
  simp only [Result.andThen]
  rw [Oper.upon_value]
  go_wp2
  rw [Lib.run_from_unsafe w ⟨b, 0, none⟩ Tryd.underlying125 Tryd.underlying77 hj hsh liesBl]
  simp only [Result.andThen]
  rw [Oper.upon_value]
  go_wp2
  exact ⟨rfl, .tuple #[], (by simp [results, Tryd.results76, go_sem]), rfl, rfl⟩

theorem bcheck_any (B b : Nat) (bs : List Value) (w : World) (h : Lib.IsBuilder 80 5 B b bs w) :
    Calls Tryd.prog 76 #[.pointer (some ⟨b, 0, none⟩)] w fun e w' => e = .returned (.tuple #[]) ∧ Lib.BuilderAt 80 5 B b (.pointer (some ⟨b, 0, none⟩)) bs w' ∧ Below B w w' ∧ w'.heap.size = w.heap.size := by
  rcases h with h | h
  · refine (bcheck_fresh b w h.cell0 h.shape h.frozen0).mono ?_
    rintro e w' ⟨rfl, rfl⟩
    exact ⟨rfl, h.used _, (Below.refl B w).setCell (p := ⟨b, 0, none⟩) h.1 _, by simp⟩
  · refine (bcheck_used b w h.cell0).mono ?_
    rintro e w' ⟨rfl, rfl⟩
    exact ⟨rfl, h, Below.refl B _, rfl⟩
theorem infoBy : (Tryd.prog.info? 78).map (·.size) = some 1 := by kernel_rfl

set_option maxRecDepth 100000 in
set_option maxHeartbeats 1000000 in
theorem writeString_any (B b : Nat) (l : List UInt8) (s : ByteArray) (w : World) (h : Lib.IsBuilder 80 5 B b (Lib.byteCells l) w) (hl : l.length + s.size ≤ 4194304) (hB : B ≤ w.heap.size) :
    Calls Tryd.prog 42 #[.pointer (some ⟨b, 0, none⟩), .string s] w fun e w' => e = .returned (.tuple #[.int .i64 s.size, .nilIface]) ∧ Lib.IsBuilder 80 5 B b (Lib.byteCells (l ++ s.data.toList)) w' ∧ Below B w w' := by
  obtain ⟨i0, hi, hz0, hz1, hz2⟩ := parts5
  have HC : Hid (Lib.byteCells (l ++ s.data.toList) = Lib.byteCells l ++ Lib.strCells s) := (by show _ = _; simp [Lib.byteCells, Lib.strCells])
  have HLN : Hid ((Lib.strCells s).length = s.size) := (by show _ = _; simp [Lib.strCells])
  have hbl : (Lib.byteCells l).length + s.size ≤ 4194304 := by simp [Lib.byteCells]; exact hl
  generalize Lib.byteCells l = bs at *
  go_enter Tryd.func42, Tryd.ntmps42
  go_wp2_with (go_at_call 76; refine (bcheck_any B b bs _ h).mono ?_; rintro e w1 ⟨rfl, h1, hb1, hs1⟩; refine Hid.out ?_)
  refine Lib.hid ?_
  obtain ⟨hBb, v, hbk, hown, hne⟩ := h1
  have N1 : IsS w1 b 80 [.pointer (some ⟨b, 0, none⟩), v] := hbk
  have c1 : w1.cell? ⟨b, 1, none⟩ = some v := N1.cell 1
  go_wp2_with (at_builtin; refine Lib.wpList_append_own_string _ rfl _ _ 78 9 rfl B 5 i0 Tryd.underlying78 Tryd.underlying9 hi hz0 hz1 hz2 _ _ _ rfl hown s rfl ?c3 ?c4 ?c5 ?_)
  case c3 => unfold maxLen; omega
  case c4 => omega
  case c5 => omega
  intro v' w2 hown' hgr _
  have N2 : IsS w2 b 80 [.pointer (some ⟨b, 0, none⟩), v] := (hgr.block b N1.lt (fun e => hne e.symm)).trans N1
  have hB2 : Below B w w2 := hb1.grown hgr (by omega) (fun k hk => (hown.lt k hk).1)
  obtain ⟨a1, c2, rfl⟩ := own_form hown'
  go_wp2_with (first
    | (refine wpList_store1 rfl 78 _ _ rfl rfl (.slice a1 (bs.length + s.size) c2) rfl N2 (by simp) infoBy rfl ?_; intro w3 U3 N3))
  go_ret2
  refine ⟨rfl, .inr ⟨hBb, _, N3, ?_, ?_⟩, U3.trans hB2 hBb⟩
  · rw [HC.out, List.length_append, HLN.out]
    exact own_updN hown' U3 (own_ne hown' N2 (by decide))
  · exact own_ne hown' N2 (by decide)
end Go.Proofs.YtdjlfpkemdiadaaDoor
/- The library's Builder, told with what stays: WriteString. -/
namespace Go.Proofs.YtdjlfpkemdiadaaDoor
open Go.RowKit Go.Shelf M
set_option linter.unusedSimpArgs false
set_option linter.unusedVariables false

/-- Blocks stay, but for a variable's and a row's; the row's is the old one or new. -/
structure Step (bo row row' : Option Nat) (W W' : World) : Prop where
  os : W'.os = W.os
  tape : W'.tape = W.tape
  output : W'.output = W.output
  size : W.heap.size ≤ W'.heap.size
  block : ∀ k, k < W.heap.size → some k ≠ bo → some k ≠ row → W'.heap[k]? = W.heap[k]?
  row : row' = row ∨ ∃ g, row' = some g ∧ W.heap.size ≤ g
theorem Step.comp {bo r0 r1 r2 : Option Nat} {A B C : World} (h : Step bo r0 r1 A B) (k : Step bo r1 r2 B C) : Step bo r0 r2 A C :=
  ⟨k.os.trans h.os, k.tape.trans h.tape, k.output.trans h.output, Nat.le_trans h.size k.size,
   fun i hi h1 h2 => (k.block i (Nat.lt_of_lt_of_le hi h.size) h1 (by
     rcases h.row with e | ⟨g, e, hg⟩
     · rw [e]; exact h2
     · rw [e]; intro e'; cases e'; omega)).trans (h.block i hi h1 h2),
   by
     rcases k.row with e | ⟨g, e, hg⟩
     · rw [e]; exact h.row
     · exact .inr ⟨g, e, Nat.le_trans h.size hg⟩⟩
theorem Step.of_below {bo row : Option Nat} {W W' : World} (h : Below W.heap.size W W') : Step bo row row W W' := ⟨h.os, h.tape, h.output, h.size, fun k hk _ _ => h.block k hk, .inl rfl⟩
theorem Step.of_upd {b : Nat} {row : Option Nat} {W W' : World} (U : Upd W W' b) : Step (some b) row row W W' := ⟨U.os, U.tape, U.output, Nat.le_of_eq U.size.symm, fun k _ hk _ => U.block k (fun e => hk (by rw [e])), .inl rfl⟩
theorem Step.mono {bo r0 r1 : Option Nat} {W W' : World} (h : Step none r0 r1 W W') : Step bo r0 r1 W W' := ⟨h.os, h.tape, h.output, h.size, fun k hk _ h2 => h.block k hk (fun e => by cases e) h2, h.row⟩
theorem Step.below {bo r0 r1 : Option Nat} {W W' : World} {B : Nat} (h : Step bo r0 r1 W W') (hb : ∀ b, bo = some b → B ≤ b) (hr : ∀ b, r0 = some b → B ≤ b) (hB : B ≤ W.heap.size) : Below B W W' :=
  ⟨h.os, h.tape, h.output, h.size, fun k hk => h.block k (by omega) (fun e => by have := hb k e.symm; omega) (fun e => by have := hr k e.symm; omega)⟩
theorem IsS.step {bo r0 r1 : Option Nat} {W W' : World} {b t : Nat} {cs : List Value} (h : IsS W b t cs) (s : Step bo r0 r1 W W') (h1 : some b ≠ bo) (h2 : some b ≠ r0) : IsS W' b t cs := (s.block b h.lt h1 h2).trans h
/-- A builder of one's own: its bytes lie in a row of its own. -/
structure BW (w : World) (B b : Nat) (l : List UInt8) (v : Value) : Prop where
  hB : B ≤ b
  blk : ∃ p, (p = Value.pointer none ∨ p = .pointer (some ⟨b, 0, none⟩)) ∧ IsS w b 80 [p, v]
  own : w.ownsRow B 5 1 v l.length (Lib.byteCells l)
theorem BW.ne {w : World} {B b : Nat} {l : List UInt8} {v : Value} (h : BW w B b l v) : v.ownBlock ≠ some b := by
  obtain ⟨p, _, h2⟩ := h.blk
  exact own_ne h.own h2 (by decide)
theorem BW.below {w w' : World} {B b : Nat} {l : List UInt8} {v : Value} (h : BW w B b l v) (hb : Below w.heap.size w w') : BW w' B b l v := by
  obtain ⟨p, h1, h2⟩ := h.blk
  exact ⟨h.hB, ⟨p, h1, h2.grown hb⟩, own_belowW h.own hb⟩
theorem BW.upd {w w' : World} {B b b' : Nat} {l : List UInt8} {v : Value} (h : BW w B b l v) (U : Upd w w' b') (h1 : b ≠ b') (h2 : v.ownBlock ≠ some b') : BW w' B b l v := by
  obtain ⟨p, h3, h4⟩ := h.blk
  exact ⟨h.hB, ⟨p, h3, h4.upd U h1⟩, own_updN h.own U h2⟩
theorem BW.lib {w : World} {B b : Nat} {l : List UInt8} {v : Value} (h : BW w B b l v) : Lib.IsBuilder 80 5 B b (Lib.byteCells l) w := by
  obtain ⟨p, h1, h2⟩ := h.blk
  have hl : (Lib.byteCells l).length = l.length := by simp [Lib.byteCells]
  rcases h1 with rfl | rfl
  · exact .inl ⟨h.hB, v, h2, by rw [hl]; exact h.own, h.ne⟩
  · exact .inr ⟨h.hB, v, h2, by rw [hl]; exact h.own, h.ne⟩
theorem check_own {B b : Nat} {l : List UInt8} {v : Value} {w : World} (h : BW w B b l v) :
    Calls Tryd.prog 76 #[.pointer (some ⟨b, 0, none⟩)] w fun e w' => e = .returned (.tuple #[]) ∧ IsS w' b 80 [.pointer (some ⟨b, 0, none⟩), v] ∧ w'.ownsRow B 5 1 v l.length (Lib.byteCells l) ∧ Upd w w' b := by
  obtain ⟨p, h1, h2⟩ := h.blk
  rcases h1 with rfl | rfl
  · refine (bcheck_fresh b w (h2.cell 0) (by have h2' : w.heap[b]? = some (.cells #[.pointer none, v] 80 (0, 0)) := h2; simp [World.shape?, h2']) (h2.frozen 0)).mono ?_
    rintro e w' ⟨rfl, rfl⟩
    exact ⟨rfl, h2.set1 0 _, own_updN h.own (Upd.setCell w b 0 _) h.ne, Upd.setCell w b 0 _⟩
  · refine (bcheck_used b w (h2.cell 0)).mono ?_
    rintro e w' ⟨rfl, rfl⟩
    exact ⟨rfl, h2, h.own, Upd.refl _ _⟩
theorem run_appSt {w : World} (B : Nat) (v : Value) (n : Nat) (xs : List Value) (hown : w.ownsRow B 5 1 v n xs) (s : ByteArray) (hn : n + s.size ≤ 1099511627776) (hB : B ≤ w.heap.size) (ty : TypeId) :
    ∃ v' w', (Builtin.append_ #[78, 9] ty #[v, .string s]).run Tryd.prog w = .ok v' w' ∧ w'.ownsRow B 5 1 v' (n + s.size) (xs ++ Lib.strCells s) ∧ Step none v.ownBlock v'.ownBlock w w' := by
  obtain ⟨i0, hi, hz, hs, hby⟩ := parts5
  obtain ⟨v', w', hr, ho, hg, hnil⟩ := Lib.run_append_own_string (P := Tryd.prog) w B 78 9 ty 5 i0 Tryd.underlying78 Tryd.underlying9 hi hz hs hby v n xs hown s (by unfold maxLen; omega) (by omega) hB
  refine ⟨v', w', hr, ho, hg.os, hg.tape, hg.output, hg.size, fun k hk _ h2 => hg.block k hk h2, ?_⟩
  rcases hown.2 with ⟨rfl, hn0⟩ | ⟨g, cap, cur, rfl, hbg, hgc, hnc, hcm, hcs, htake⟩
  · by_cases h0 : s.size = 0
    · have := hnil.2 ⟨rfl, h0⟩
      rw [this]
      exact .inl rfl
    · have h2 := run_append_nil_string (P := Tryd.prog) w 78 9 ty 5 i0 (.int .u8 0) Tryd.underlying78 Tryd.underlying9 hi hz s (by omega) (by omega) (by rw [hby]; omega)
      rw [hr] at h2
      injection h2 with e1 e2
      rw [e1]
      exact .inr ⟨w.heap.size, rfl, Nat.le_refl _⟩
  · have hcs' : cur.size = cap := by simpa using hcs
    by_cases hroom : n + s.size ≤ cap
    · have h2 := Lib.run_append_room_string (P := Tryd.prog) w 78 9 ty 5 i0 Tryd.underlying78 Tryd.underlying9 hi hs g n cap cur hgc s hroom (by omega)
      rw [hr] at h2
      injection h2 with e1 e2
      rw [e1]
      exact .inl rfl
    · have hxl : xs.length = n := by simpa using hown.1
      have h2 := Lib.run_append_grow_string (P := Tryd.prog) w 78 9 ty 5 i0 (.int .u8 0) Tryd.underlying78 Tryd.underlying9 hi hz ⟨g, 0, none⟩ n cap xs (by rw [hs]; simpa using hxl) (hown.cells (g := g) rfl) s (by omega) (by omega) (by rw [hby]; exact growslice_fits (by omega) (by omega))
      rw [hr] at h2
      injection h2 with e1 e2
      rw [e1]
      exact .inr ⟨w.heap.size, rfl, Nat.le_refl _⟩
section
variable {w : World} {ops : Array Oper} {rest : List Oper} {op : Oper} {a : Act} {Q : Exit → Act → World → Prop}
theorem wpList_appSt (hgd : op.guard = none) (s x : Operand) (ho : op.op = .call { callee := .builtin .append, args := #[s, x], argTypes := #[78, 9] })
    (B : Nat) (v : Value) (n : Nat) (xs : List Value) (hs : a.eval s = v) (hown : w.ownsRow B 5 1 v n xs) (t : ByteArray) (hx : a.eval x = .string t) (hn : n + t.size ≤ 1099511627776) (hB : B ≤ w.heap.size)
    (h : ∀ v' w', w'.ownsRow B 5 1 v' (n + t.size) (xs ++ Lib.strCells t) → Step none v.ownBlock v'.ownBlock w w' → wpList Tryd.prog ops Q rest (a.put op.dst v') w') : wpList Tryd.prog ops Q (op :: rest) a w := by
  refine wpList_plain hgd fun K hK => ?_
  obtain ⟨v', w', hr, h1, h2⟩ := run_appSt B v n xs hown t hn hB op.type
  unfold Oper.wp execOp
  simp only [ho, resolve, invoke, builtin, Sem.run_bind, Sem.run_pure, Result.andThen_ok, List.map_toArray, List.map_cons, List.map_nil, hs, hx, hr]
  exact hK _ _ (h v' w' h1 h2)
end
set_option maxRecDepth 100000 in
set_option maxHeartbeats 1000000 in
theorem writeString_own {B b : Nat} {l : List UInt8} {v : Value} (s : ByteArray) {w : World} (h : BW w B b l v) (hl : l.length + s.size ≤ 1099511627776) (hB : B ≤ w.heap.size) :
    Calls Tryd.prog 42 #[.pointer (some ⟨b, 0, none⟩), .string s] w fun e w' => e = .returned (.tuple #[.int .i64 s.size, .nilIface]) ∧ ∃ v', BW w' B b (l ++ s.data.toList) v' ∧ Step (some b) v.ownBlock v'.ownBlock w w' := by
  have hBb := h.hB
  have cC := check_own h
  obtain ⟨a0, c0, rfl⟩ := own_form h.own
  have HL : Hid ((l ++ s.data.toList).length = l.length + s.size) := (by show _ = _; simp)
  have HC : Hid (Lib.byteCells (l ++ s.data.toList) = Lib.byteCells l ++ Lib.strCells s) := (by show _ = _; simp [Lib.byteCells, Lib.strCells])
  clear h
  go_enter Tryd.func42, Tryd.ntmps42
  go_wp2_with (first
    | (go_at_call 76; refine cC.mono ?_; rintro e w1 ⟨rfl, N1, O1x, U1⟩; have O1 : Hid (w1.ownsRow B 5 1 (.slice a0 l.length c0) l.length (Lib.byteCells l)) := O1x; have S1 : Hid (Step (some b) (Value.slice a0 l.length c0).ownBlock (Value.slice a0 l.length c0).ownBlock w w1) := Step.of_upd U1; have hB1 : B ≤ w1.heap.size := (by rw [U1.size]; exact hB); have c1 : w1.cell? ⟨b, 1, none⟩ = some (.slice a0 l.length c0) := N1.cell 1; clear O1x U1 cC)
    | (at_builtin; refine wpList_appSt rfl _ _ rfl B (.slice a0 l.length c0) l.length (Lib.byteCells l) rfl O1.out s rfl (by omega) hB1 ?_; intro v6 w6 O6x S6x; have N6 : IsS w6 b 80 [.pointer (some ⟨b, 0, none⟩), .slice a0 l.length c0] := N1.step S6x (by simp) (fun e => own_ne O1.out N1 (by decide) e.symm); have S6 : Hid (Step (some b) (Value.slice a0 l.length c0).ownBlock v6.ownBlock w w6) := S1.out.comp S6x.mono; have O6 : Hid (w6.ownsRow B 5 1 v6 (l.length + s.size) (Lib.byteCells l ++ Lib.strCells s)) := O6x; clear O6x S6x O1 S1 N1; refine Hid.out ?_))
  refine Lib.hid ?_
  obtain ⟨a1, c2, rfl⟩ := own_form O6.out
  go_wp2_with (first
    | (refine wpList_store1 rfl 78 _ _ rfl rfl (.slice a1 (l.length + s.size) c2) rfl N6 (by simp) infoBy rfl ?_; intro w7 U7 N7))
  go_ret2
  refine ⟨rfl, _, ⟨hBb, ⟨_, .inr rfl, N7⟩, ?_⟩, S6.out.comp (Step.of_upd U7)⟩
  rw [HL.out, HC.out]
  exact own_updN O6.out U7 (own_ne O6.out N6 (by decide))
end Go.Proofs.YtdjlfpkemdiadaaDoor
/- A region that draws its order, whose head grows memory at most and whose tail comes in order, inside a round of a loop over an iterator: one walk in the text's order. -/
namespace Go.Proofs.YtdjlfpkemdiadaaDoor
open Go Go.RowKit
set_option linter.unusedVariables false
set_option linter.unusedSimpArgs false

section
variable {P : Program} {ops : Array Oper} {md : Region.Mode} {lo m : Nat}
theorem wpOpIn_of_grow (hnd : ∀ (i : Nat) (o : Oper), ops[i]? = some o → ∀ c, o.op ≠ .defer c) {W : World} {C : World → Prop} (hC : Grown W C) {i : Nat} {o : Oper} (hi : ops[i]? = some o) {K : Act → Prop} {K' : Act → World → Prop} {Q' : Exit → Act → World → Prop} {a : Act} {w : World} (hc : C w)
    (h : ∀ a' w', C w' → K a' → K' a' w') (hg : growOp P ops W o K a) : wpOpIn (Fence.wide.inRound lo) m P ops Q' i K' a w := by
  unfold growOp at hg
  unfold wpOpIn
  simp only [hi]
  by_cases hw : Region.wanted o (yielded ops a.tmps) = true
  · rw [if_pos hw] at hg ⊢
    obtain ⟨v, h1, h2⟩ := hg
    have q := quietAt_of_grows hC h1 w hc
    refine ⟨fun f _ => trivial, ?_⟩
    rw [Oper.semAt_plain (Fence.wide.inRound lo) _ _ (hnd i o hi)]
    unfold Oper.quietAt at q
    generalize (execOp a.eval o).run P w = r at *
    match r, q with
    | .ok (.value u) w', ⟨e, hv⟩ => subst e; subst hv; exact h _ _ hc h2
    | .ok .skip w', ⟨e, hv⟩ => subst e; subst hv; exact h _ _ hc h2
    | .ok (.enter f args) w', ⟨e, hcl⟩ =>
      subst e
      refine ⟨fun hd => by simp [Fence.wide, Fence.inRound] at hd, CallsIn.inRound lo (callsIn_wide.2 (hcl.mono ?_))⟩
      rintro e w'' ⟨rfl, hw''⟩
      exact h _ _ hw'' h2
  · rw [if_neg hw] at hg ⊢
    exact ⟨fun f _ => trivial, h _ _ hc hg⟩
theorem anyIn_of_headG (hnd : ∀ (i : Nat) (o : Oper), ops[i]? = some o → ∀ c, o.op ≠ .defer c) {W : World} {C : World → Prop} (hC : Grown W C) {n g : Nat} {L : Array Bool → Act → Prop} {Q' : Exit → Act → World → Prop}
    (hL : ∀ listed a w, C w → L listed a → wpAnyIn (Fence.wide.inRound lo) m P md ops Q' g listed a w) (f : Nat) :
    ∀ (listed : Array Bool) (a : Act) (w : World), C w → headG P md ops W n L f listed a → wpAnyIn (Fence.wide.inRound lo) m P md ops Q' (f + g) listed a w := by
  induction f with
  | zero =>
    intro listed a w hc h
    have := hL listed a w hc h
    rwa [Nat.zero_add]
  | succ f ih =>
    intro listed a w hc h
    have e : f + 1 + g = f + g + 1 := Nat.add_right_comm f 1 g
    rw [e]
    refine ⟨fun none => (h.1 none).elim, fun i hi => ?_⟩
    obtain ⟨_, o, ho, hg⟩ := h.2 i hi
    exact wpOpIn_of_grow hnd hC ho hc (fun a' w' hw' more => ih _ a' w' hw' more) hg
theorem lexM_of_head {g m' : Nat} : ∀ (f k : Nat) (listed : Array Bool), k + f = m' → Region.lexHead md ops g f k listed = true → lexM md ops g m' f k listed = true
  | 0, k, listed, e, h => by
    have : k = m' := by omega
    subst this
    exact h
  | f + 1, k, listed, e, h => by
    simp only [Region.lexHead, Bool.and_eq_true] at h
    simp only [lexM, Bool.and_eq_true]
    exact ⟨h.1, lexM_of_head f (k + 1) _ (by omega) h.2⟩
theorem grow_tail_round {id : Nat} {Q : Exit → Act → World → Prop} {a : Act} {W : World} {l : List Oper} (n : Nat) (hm : P.follows .mixedOrders = true) (hB : Region.lexTailB .any l.toArray n = true) (hall : l.all noDefer = true)
    (h : wpG P l.toArray W (fun a' => ∀ w', Below W.heap.size W w' → wpListIn (Fence.wide.inRound lo) m P l.toArray Q (l.drop n) a' w') (l.take n) a) : (Code.region id l.toArray true).wpIn (Fence.wide.inRound lo) m P Q a W := by
  have hnd : ∀ (i : Nat) (o : Oper), l.toArray[i]? = some o → ∀ c, o.op ≠ .defer c := fun i o ho c hc => by
    have h1 : l[i]? = some o := by simpa using ho
    have h2 := List.all_eq_true.1 hall o (List.mem_of_getElem? h1)
    unfold noDefer at h2
    rw [hc] at h2
    cases h2
  unfold Region.lexTailB at hB
  rw [Bool.and_eq_true, Bool.and_eq_true, Bool.and_eq_true, Bool.and_eq_true] at hB
  have hn : n < l.toArray.size := of_decide_eq_true hB.1.1.1.2
  have hlen : n ≤ l.length := by have := hn; simp at this; omega
  have len1 : (l.take n).length = n := List.length_take_of_le hlen
  have len2 : (l.drop n).length = l.toArray.size - n := by rw [List.length_drop]; simp
  have lex : lexM .any l.toArray (l.toArray.size - n) n (l.take n).length 0 (Array.replicate l.toArray.size false) = true := by
    rw [len1]; exact lexM_of_head n 0 _ (by omega) hB.2
  have head := head_lexG (P := P) (W := W) hB.1.1.1.1 hB.1.1.2 hB.1.2 hn (l.take n) 0 _ a (fun j hj => by
    rw [len1] at hj
    rw [List.getElem?_take_of_lt hj]
    simp) (by rw [len1]; omega) (nothing_yet n) lex h
  have grown : Below W.heap.size W { W with drawn := W.drawn + 1 } := ⟨rfl, rfl, rfl, Nat.le_refl _, fun _ _ => rfl⟩
  have whole := anyIn_of_headG (lo := lo) (m := m) hnd (grown_all W) (Q' := Q) (g := l.toArray.size - n) (fun listed a' w' hw' hL => by
    rw [← len2]
    rw [← len2] at hL
    exact tail_in_order (l.drop n) n listed a' _ (fun j => by simp) hL.1 (hL.2 w' hw')) _ _ a _ grown head
  have total : (l.take n).length + (l.toArray.size - n) = l.toArray.size := by rw [len1]; omega
  rw [total] at whole
  exact wpIn_region_any hm whole
end
end Go.Proofs.YtdjlfpkemdiadaaDoor
/- A picture's small texts: nodes, labels; the pairs without one between. -/
namespace Go.Proofs.YtdjlfpkemdiadaaDoor
open Go Go.RowKit M
set_option linter.unusedSimpArgs false
set_option linter.unusedVariables false

def bs (l : List UInt8) : ByteArray := ⟨l.toArray⟩
theorem bs_app (a b : List UInt8) : bs a ++ bs b = bs (a ++ b) := by
  apply ByteArray.ext
  simp [bs, ByteArray.data_append]
theorem bs_size (l : List UInt8) : (bs l).size = l.length := by simp [bs, ByteArray.size]
theorem bs_data (l : List UInt8) : (bs l).data.toList = l := by simp [bs]
theorem bs_of (s : ByteArray) : bs s.data.toList = s := by simp [bs]
theorem addL (a b : List UInt8) (h : a.length + b.length ≤ 9223372036854775807) : ∀ W, (Op.stringOp .add (bs a) (bs b)).run Tryd.prog W = .ok (.string (bs (a ++ b))) W := fun W => by
  have := addS (bs a) (bs b) (by rw [bs_size, bs_size]; exact h) W
  rw [bs_app] at this
  exact this
/-- A node's name. -/
def nodeL (i : Int) : List UInt8 := 101 :: textL i
/-- What ends a line. -/
def lblL (l : List UInt8) : List UInt8 := [32, 91, 108, 97, 98, 101, 108, 61, 34] ++ l ++ [34, 93] ++ [10]
theorem nodeL_le (i : Int) (h0 : -9223372036854775808 ≤ i) (h1 : i ≤ 9223372036854775807) : (nodeL i).length ≤ 22 := by
  have := textL_le i h0 h1
  show _ + 1 ≤ _
  omega
theorem lblL_len (l : List UInt8) : (lblL l).length = l.length + 12 := by simp [lblL]
set_option maxRecDepth 100000 in
set_option maxHeartbeats 2000000 in
theorem nodeText_any (i : Int) (h0 : -9223372036854775808 ≤ i) (h1 : i ≤ 9223372036854775807) (w : World) (hT : Tab10 w) :
    Calls Tryd.prog 46 #[.int .i64 i] w fun e w' => e = .returned (.string (bs (nodeL i))) ∧ Below w.heap.size w w' := by
  have c : Hid (Calls Tryd.prog 65 #[.int .i64 i] w fun e w' => e = .returned (.string (bs (textL i))) ∧ Below w.heap.size w w') := itoa_any i h0 h1 w hT
  have e1 := addL [101] (textL i) (by have := textL_le i h0 h1; simp; omega)
  have HV : Hid (nodeL i = [101] ++ textL i) := rfl
  generalize nodeL i = V at *
  generalize textL i = L at *
  have b1 : (ByteArray.mk #[101]) = bs [101] := rfl
  go_enter Tryd.func46, Tryd.ntmps46
  rw [b1]
  go_wp2_with (first
    | (go_at_call 65; refine c.out.mono ?_; rintro e w1 ⟨rfl, B1⟩))
  go_ret
  exact ⟨by rw [HV.out]; rfl, B1⟩
set_option maxRecDepth 100000 in
set_option maxHeartbeats 2000000 in
theorem labelText_any (l : List UInt8) (hl : l.length ≤ 1099511627776) (w : World) :
    Calls Tryd.prog 47 #[.string (bs l)] w fun e w' => e = .returned (.string (bs (lblL l))) ∧ w' = w := by
  have e1 := addL [32, 91, 108, 97, 98, 101, 108, 61, 34] l (by simp; omega)
  have e2 := addL ([32, 91, 108, 97, 98, 101, 108, 61, 34] ++ l) [34, 93] (by simp; omega)
  have e3 := addL ([32, 91, 108, 97, 98, 101, 108, 61, 34] ++ l ++ [34, 93]) [10] (by simp; omega)
  have b1 : (ByteArray.mk #[32, 91, 108, 97, 98, 101, 108, 61, 34]) = bs [32, 91, 108, 97, 98, 101, 108, 61, 34] := rfl
  have b2 : (ByteArray.mk #[34, 93]) = bs [34, 93] := rfl
  have b3 : (ByteArray.mk #[10]) = bs [10] := rfl
  have HV : Hid (lblL l = [32, 91, 108, 97, 98, 101, 108, 61, 34] ++ l ++ [34, 93] ++ [10]) := rfl
  generalize lblL l = V at *
  generalize [32, 91, 108, 97, 98, 101, 108, 61, 34] ++ l ++ [34, 93] ++ [10] = V3 at *
  generalize [32, 91, 108, 97, 98, 101, 108, 61, 34] ++ l ++ [34, 93] = V2 at *
  generalize [32, 91, 108, 97, 98, 101, 108, 61, 34] ++ l = V1 at *
  go_enter Tryd.func47, Tryd.ntmps47
  rw [b1, b2, b3]
  go_wp2
  go_ret
  exact ⟨by rw [HV.out]; rfl, rfl⟩
end Go.Proofs.YtdjlfpkemdiadaaDoor
/- putArrows: a relation's pairs, a line each, at a builder's end. -/
namespace Go.Proofs.YtdjlfpkemdiadaaDoor
open Go Go.RowKit Go.Shelf M
attribute [local go_sem] Oper.semAt_some
set_option linter.unusedSimpArgs false
set_option linter.unusedVariables false

/-- A pair's line. -/
def arrL (s : List UInt8) (a b : Nat) : List UInt8 := nodeL a ++ [32, 45, 62, 32] ++ nodeL b ++ lblL s
/-- All pairs' lines. -/
def arrsL (s : List UInt8) : List (Nat × Nat) → List UInt8
  | [] => []
  | e :: es => arrL s e.1 e.2 ++ arrsL s es
theorem arrsL_snoc (s : List UInt8) : ∀ (es : List (Nat × Nat)) (e : Nat × Nat), arrsL s (es ++ [e]) = arrsL s es ++ arrL s e.1 e.2
  | [], e => by simp [arrsL]
  | x :: es, e => by rw [List.cons_append]; simp only [arrsL]; rw [arrsL_snoc s es e, List.append_assoc]
theorem nodeL_nat (a : Nat) (h : a < 64) : (nodeL (a : Int)).length ≤ 22 := nodeL_le _ (by omega) (by omega)
theorem arrL_le (s : List UInt8) (a b : Nat) (ha : a < 64) (hb : b < 64) (hs : s.length ≤ 4) : (arrL s a b).length ≤ 64 := by
  have h1 := nodeL_nat a ha
  have h2 := nodeL_nat b hb
  simp only [arrL, List.length_append, List.length_cons, List.length_nil, lblL_len]
  omega
theorem arrsL_le (s : List UInt8) (hs : s.length ≤ 4) : ∀ (es : List (Nat × Nat)), (∀ e ∈ es, e.1 < 64 ∧ e.2 < 64) → (arrsL s es).length ≤ 64 * es.length
  | [], _ => by simp [arrsL]
  | e :: es, h => by
    have h1 := arrL_le s e.1 e.2 (h e (by simp)).1 (h e (by simp)).2 hs
    have h2 := arrsL_le s hs es (fun x hx => h x (by simp [hx]))
    simp only [arrsL, List.length_append, List.length_cons]
    omega

/-- A builder that has come on from another world. -/
structure BS (w : World) (B bo : Nat) (v0 : Value) (l : List UInt8) (W : World) (v : Value) : Prop where
  b : BW W B bo l v
  s : Step (some bo) v0.ownBlock v.ownBlock w W
theorem cells_stay {X Y : World} {row : Option Nat} {k : Nat} {c : Array Value} {t : TypeId} {fr : Nat × Nat} (hg : X.grownBy Y row) (hr : ∀ r, row = some r → ∃ o : Obj, X.heap[r]? = some o ∧ o.isCells = false) (hk : X.heap[k]? = some (.cells c t fr)) : Y.heap[k]? = X.heap[k]? := by
  refine hg.block k (Array.getElem?_eq_some_iff.1 hk).1 (fun e => ?_)
  obtain ⟨o, ho, hc⟩ := hr k e.symm
  rw [hk] at ho
  cases ho
  cases hc
theorem bw_grow {X Y : World} {row : Option Nat} {B bo : Nat} {l : List UInt8} {v : Value} (hg : X.grownBy Y row) (hr : ∀ r, row = some r → ∃ o : Obj, X.heap[r]? = some o ∧ o.isCells = false) (h : BW X B bo l v) : BW Y B bo l v := by
  obtain ⟨p, h1, h2⟩ := h.blk
  refine ⟨h.hB, ⟨p, h1, (cells_stay hg hr h2).trans h2⟩, h.own.1, ?_⟩
  rcases h.own.2 with hn | ⟨g, cap, cur, rfl, hgb, hh, rest⟩
  · exact Or.inl hn
  · exact Or.inr ⟨g, cap, cur, rfl, hgb, (cells_stay hg hr hh).trans hh, rest⟩
theorem step_grow {w X Y : World} {row : Option Nat} {bo : Nat} {r0 r1 : Option Nat} (hg : X.grownBy Y row) (hr : ∀ r, row = some r → w.heap.size ≤ r) (h : Step (some bo) r0 r1 w X) : Step (some bo) r0 r1 w Y :=
  ⟨hg.os.trans h.os, hg.tape.trans h.tape, hg.output.trans h.output, Nat.le_trans h.size hg.size, fun k hk h1 h2 => (hg.block k (Nat.lt_of_lt_of_le hk h.size) (fun e => by have := hr k e.symm; omega)).trans (h.block k hk h1 h2), h.row⟩
theorem bs_own {β : Type} {w : World} {B bo B' : Nat} {v0 : Value} (f : β → List UInt8) (hB : w.heap.size ≤ B') : OwnFrom B' (fun (x : β) W => ∃ v, BS w B bo v0 (f x) W v) := fun x X Y row ⟨v, hs⟩ hg hr =>
  ⟨v, bw_grow hg (fun r e => (hr r e).2) hs.b, step_grow hg (fun r e => Nat.le_trans hB (hr r e).1) hs.s⟩
/-- What a step of the builder leaves as it lay, told as a round must tell it. -/
theorem step_kp {w X Y : World} {B0 bo : Nat} {v0 v v' : Value} {l : List UInt8} {B : Nat} {bs : List Nat} (hB0 : B0 ≤ w.heap.size) (hb : BW X B bo l v) (h0 : Step (some bo) v0.ownBlock v.ownBlock w X) (hs : Step (some bo) v.ownBlock v'.ownBlock X Y)
    (hbo : bo ∈ bs) (hv0 : ∀ g, v0.ownBlock = some g → g ∈ bs) : KpB w.heap.size bs [5] X Y := by
  refine ⟨hs.size, fun k o hk hn ht => (hs.block k (Array.getElem?_eq_some_iff.1 hk).1 (fun e => ?_) (fun e => ?_)).trans hk⟩
  · cases e; exact hn hbo
  · rcases h0.row with e0 | ⟨g, e0, hg⟩
    · exact hn (hv0 k (by rw [← e0, ← e]))
    · rw [e0] at e
      cases e
      rcases hb.own.2 with ⟨hv, _⟩ | ⟨g', cap, cur, hv, hgb, hh, rest⟩
      · rw [hv] at e0; cases e0
      · rw [hv] at e0
        have e1 : g' = k := by simpa [Value.ownBlock] using e0
        subst e1
        rw [hk] at hh
        cases hh
        exact ht hg _ _ _ rfl (by simp)
end Go.Proofs.YtdjlfpkemdiadaaDoor
/- putArrows, walked. -/
namespace Go.Proofs.YtdjlfpkemdiadaaDoor
open Go Go.RowKit Go.Shelf M
attribute [local go_sem] Oper.semAt_some
set_option linter.unusedSimpArgs false
set_option linter.unusedVariables false

theorem BW.low {w : World} {B b : Nat} {l : List UInt8} {v : Value} (h : BW w B b l v) : ∀ g, v.ownBlock = some g → B ≤ g ∧ g < w.heap.size := by
  intro g hg
  rcases h.own.2 with ⟨hv, _⟩ | ⟨g', cap, cur, hv, hgb, hh, rest⟩
  · rw [hv] at hg; cases hg
  · rw [hv] at hg
    have e1 : g' = g := by simpa [Value.ownBlock] using hg
    subst e1
    exact ⟨hgb, (Array.getElem?_eq_some_iff.1 hh).1⟩
theorem BW.lt {w : World} {B b : Nat} {l : List UInt8} {v : Value} (h : BW w B b l v) : b < w.heap.size := by
  obtain ⟨p, _, h2⟩ := h.blk
  exact h2.lt
theorem BS.below {w W : World} {B bo : Nat} {v0 v : Value} {l0 l : List UInt8} (h0 : BW w B bo l0 v0) (h : BS w B bo v0 l W v) (hB : B ≤ w.heap.size) : Below B w W :=
  h.s.below (fun b e => by cases e; exact h0.hB) (fun b e => (h0.low b e).1) hB
theorem edges_few : ∀ (N : Nat), N ≤ 64 → ∀ f : Nat → Nat, (edgesL N f).length ≤ 4096 := by
  have key : ∀ (N : Nat) (f : Nat → Nat), (edgesL N f).length ≤ N * 64 := by
    intro N f
    induction N with
    | zero => simp [edgesL]
    | succ N ih =>
      rw [edgesL_succ, List.length_append, List.length_map]
      have : (lst (f N)).length ≤ 64 := by have := List.length_filter_le (fun i => (f N).testBit i) (List.range 64); simpa [lst] using this
      omega
  intro N hN f
  have := key N f
  omega
set_option maxRecDepth 100000 in
set_option maxHeartbeats 4000000 in
theorem putArrows_any (wd : World) (hTd : TabAt wd) (hT10 : Tab10 wd) (bo : Nat) (l : List UInt8) (v0 : Value) (s : List UInt8) (hs : s.length ≤ 4) (N : Nat) (hN : N ≤ 64) (F : Nat → Nat) (hF : Right N F) (w : World) (hW : Below wd.heap.size wd w)
    (hb : BW w wd.heap.size bo l v0) (hl : l.length ≤ 274877906944) :
    Calls Tryd.prog 48 #[.pointer (some ⟨bo, 0, none⟩), .string (bs s), relv N F] w fun e w' => e = .returned (.tuple #[]) ∧ ∃ v, BS w wd.heap.size bo v0 (l ++ arrsL s (edgesL N F)) w' v := by
  have ce : Hid (∀ W, Calls Tryd.prog 74 #[relv N F] W fun e w' => ∃ b, e = .returned (.func (.func 92) #[] #[.pointer (some ⟨b, 0, none⟩)]) ∧ W.heap.size ≤ b ∧ IsR w' b N F ∧ Below W.heap.size W w') := fun W => edges_right hF hN W
  have hf19 : Fence.wide.fn 74 := trivial
  have hf73 : Fence.wide.fn 92 := trivial
  have tk1 : True := trivial
  have HBW : Hid (BW w wd.heap.size bo l v0) := hb
  have HTd : Hid (TabAt wd) := hTd
  have HT10 : Hid (Tab10 wd) := hT10
  have HWd : Hid (Below wd.heap.size wd w) := hW
  have HRt : Hid (Right N F) := hF
  clear hb hTd hT10 hW hF
  refine (callsIn_wide (n := 8)).1 ?_
  refine callsIn_of_wp_marks Tryd.func48 rfl trivial ?_ rfl
  simp only [Tryd.ntmps48, List.size_toArray, List.length_cons, List.length_nil, Nat.reduceAdd, Nat.reduceSub, Array.replicate_succ, Array.replicate_zero, List.push_toArray, List.append_toArray, List.nil_append, List.cons_append]
  gi_wp2_with (first
      | (clear tk1; refine wpListIn_boxR rfl _ rfl rfl ?_; intro W3 b5 F3 r5)
      | (refine wpListIn_loadR rfl _ rfl rfl r5 ?_)
      | (gi_at_call 74; refine (callsIn_wide.2 (ce.out _)).mono ?_; rintro e W7 ⟨Bn, rfl, hBn, rn, hw'⟩))
  have hBW := HBW.out
  have hbo := hBW.lt
  have hBo := hBW.hB
  have hlow := hBW.low
  have hBw : wd.heap.size ≤ w.heap.size := HWd.out.size
  have hpos := HTd.out.pos
  have BA : Below w.heap.size w ((w.alloc (.cells #[.pointer (some ⟨bo, 0, none⟩)] 77)).alloc (.cells #[.string (bs s)] 9)) := ((Below.refl _ w).alloc (Nat.le_refl _) _).alloc (by simp) _
  have x3 : IsS ((w.alloc (.cells #[.pointer (some ⟨bo, 0, none⟩)] 77)).alloc (.cells #[.string (bs s)] 9)) w.heap.size 77 [.pointer (some ⟨bo, 0, none⟩)] := IsS.grown (w := w.alloc (.cells #[.pointer (some ⟨bo, 0, none⟩)] 77)) (World.alloc_heap_new w _) ((Below.refl _ _).alloc (Nat.le_refl _) _)
  have x4 : IsS ((w.alloc (.cells #[.pointer (some ⟨bo, 0, none⟩)] 77)).alloc (.cells #[.string (bs s)] 9)) (w.heap.size + 1) 9 [.string (bs s)] := by
    have := World.alloc_heap_new (w.alloc (.cells #[.pointer (some ⟨bo, 0, none⟩)] 77)) (.cells #[.string (bs s)] 9)
    rw [World.size_alloc] at this
    exact this
  have hsz2 : ((w.alloc (.cells #[.pointer (some ⟨bo, 0, none⟩)] 77)).alloc (.cells #[.string (bs s)] 9)).heap.size = w.heap.size + 2 := by simp
  generalize (w.alloc (.cells #[.pointer (some ⟨bo, 0, none⟩)] 77)).alloc (.cells #[.string (bs s)] 9) = W2 at *
  have B27 := Below.then (F_b F3) hw'
  have B7 := Below.then BA B27
  have y3 := x3.grown B27
  have y4 := x4.grown B27
  have hsz3 := F3.size
  have hat3 : Hid (b5 = W2.heap.size) := F3.at'
  have hsz7 := hw'.size
  have tW : TabAt W7 := (HTd.out.below HWd.out).below B7
  have HB7 : Hid (Below w.heap.size w W7) := B7
  have HF : Hid (Wf F) := HRt.out.wf
  have HBW7 : Hid (BW W7 wd.heap.size bo l v0) := hBW.below B7
  have HWd7 : Hid (Below wd.heap.size wd W7) := HWd.out.trans (B7.mono hBw)
  obtain ⟨rb, hrb1, hrb2⟩ : ∃ rb : List Nat, (∀ g, v0.ownBlock = some g → g ∈ rb) ∧ ∀ g ∈ rb, wd.heap.size ≤ g ∧ g < w.heap.size := by
    cases h : v0.ownBlock with
    | none => exact ⟨[], fun g e => (by cases e), fun g e => (by simp at e)⟩
    | some g => exact ⟨[g], fun g' e => (by cases e; simp), fun g' e => by rw [List.mem_singleton] at e; subst e; exact hlow _ h⟩
  have hE4 : (edgesL N F).length ≤ 4096 := edges_few N hN F
  clear x3 x4 BA F3 r5 hw' B27 B7 hBW hlow
  refine rangeO (bs := bo :: (W7.heap.size + 1) :: rb) (ts := [5]) rfl (by omega) (gf := 92) (lb := #[.pointer (some ⟨Bn, 0, none⟩)]) rfl trivial (enters_of Tryd.func92 (by kernel_rfl) rfl)
    (edges1_O Bn N hN F HF (bo :: (W7.heap.size + 1) :: rb) [5] (fun hm => ?h1) (fun hm => ?h2) (by decide) W7 rn tW (8 - 1)) (fun b hb => ?h3) (by simp) (Below.refl _ _) (fun _ => rfl)
    (fun pre W => (IsS W w.heap.size 77 [.pointer (some ⟨bo, 0, none⟩)] ∧ IsS W (w.heap.size + 1) 9 [.string (bs s)]) ∧ (∃ v, BS W7 wd.heap.size bo v0 (l ++ arrsL s (valsP pre)) W v) ∧ W7.heap.size ≤ W.heap.size)
    (fun _ _ _ => False)
    ?ownI ?ownX ?start
    (fun x a' W => ∃ Bx, W7.heap.size ≤ Bx ∧ Pair W Bx x.1.val x.2.val ∧ a' = { tmps := #[.pointer (some ⟨bo, 0, none⟩), .string (bs s), relv N F, .pointer (some ⟨w.heap.size, 0, none⟩), .pointer (some ⟨w.heap.size + 1, 0, none⟩), .pointer (some ⟨b5, 0, none⟩), .pointer (some ⟨Bx, 0, none⟩), relv N F, .func (.func 92) #[] #[.pointer (some ⟨Bn, 0, none⟩)], .agg #[.int .i64 (x.1.val : Nat), .int .i64 (x.2.val : Nat)], undef, undef, undef, undef, undef, undef, undef, undef, undef, undef, undef, undef, undef], defers := [] })
    ?ownA ?assign ?body ?done ?stop
  case h1 =>
    have hat := hat3.out
    rcases List.mem_cons.1 hm with e | hm
    · omega
    · rcases List.mem_cons.1 hm with e | hm
      · omega
      · have := (hrb2 _ hm).1; omega
  case h2 =>
    have hat := hat3.out
    rcases List.mem_cons.1 hm with e | hm
    · omega
    · rcases List.mem_cons.1 hm with e | hm
      · have := rn.lt; omega
      · have := (hrb2 _ hm).2; omega
  case h3 =>
    have hat := hat3.out
    rcases List.mem_cons.1 hb with e | hb
    · omega
    · rcases List.mem_cons.1 hb with e | hb
      · omega
      · have := (hrb2 _ hb).2; omega
  case ownI => exact OwnFrom.and (OwnFrom.and (Own.from (isS_own _ _ _) _) (Own.from (isS_own _ _ _) _)) (OwnFrom.and (bs_own (fun pre => l ++ arrsL s (valsP pre)) (Nat.le_refl _)) (fun s X Y row hs hg hr => Nat.le_trans hs hg.size))
  case ownX => exact fun _ _ _ _ _ hs _ _ => hs
  case start => exact ⟨⟨y3, y4⟩, ⟨v0, by show BW W7 _ _ (l ++ []) _; rw [List.append_nil]; exact HBW7.out, Step.of_below (Below.refl _ _)⟩, Nat.le_refl _⟩
  case ownA =>
    intro x a'
    intro s X Y row hs hg hr
    obtain ⟨Bx, h1, h2, h3⟩ := hs
    exact ⟨Bx, h1, pair_own Bx _ _ () X Y row h2 hg (fun r e => (hr r e).2), h3⟩
  case assign =>
    rintro lo pre x W K ⟨⟨q3, q4⟩, ⟨v, hv⟩, hS⟩ hK
    dsimp only [encE]
    gi_wp2
    have BL : Below W.heap.size W (W.alloc (.cells #[.int .i64 (x.1.val : Nat), .int .i64 (x.2.val : Nat)] 106)) := (Below.refl _ W).alloc (Nat.le_refl _) _
    exact hK _ _ ((KeepsOthers.alloc _ _).from _) (KpB.of_below BL) ⟨⟨q3.grown BL, q4.grown BL⟩, ⟨v, hv.b.below BL, hv.s.comp (Step.of_below BL)⟩, by simp; omega⟩ ⟨W.heap.size, hS, Pair.new W _ _, rfl⟩
  case body =>
    rintro lo pre x a' W ⟨⟨q3, q4⟩, ⟨v, hv⟩, hS⟩ ⟨Bx, hBx, hx, rfl⟩ hlen
    have hx0 := hx.c0
    have hx1 := hx.c1
    have z3 : W.cell? ⟨w.heap.size, 0, none⟩ = some (.pointer (some ⟨bo, 0, none⟩)) := q3.cell 0
    have z4 : W.cell? ⟨w.heap.size + 1, 0, none⟩ = some (.string (bs s)) := q4.cell 0
    have hxa := x.1.isLt
    have hxb := x.2.isLt
    have HBd := HWd7.out.trans (hv.below HBW7.out HWd7.out.size)
    have T10 : Tab10 W := HT10.out.below HBd
    have ca := fun w' (hb : Below W.heap.size W w') => nodeText_any (x.1.val : Nat) (by omega) (by omega) w' (T10.below hb)
    have cb := fun w' (hb : Below W.heap.size W w') => nodeText_any (x.2.val : Nat) (by omega) (by omega) w' (T10.below hb)
    have cs := fun w' => labelText_any s (by omega) w'
    have la := nodeL_nat x.1.val hxa
    have lb := nodeL_nat x.2.val hxb
    have ll := lblL_len s
    have hpl : (arrsL s (valsP pre)).length ≤ 64 * (valsP pre).length := arrsL_le s hs _ (fun e he => by
      simp only [valsP, List.mem_map] at he
      obtain ⟨y, _, rfl⟩ := he
      exact ⟨y.1.isLt, y.2.isLt⟩)
    rw [valsP_len] at hpl
    have hsn : arrsL s (valsP (pre ++ [x])) = arrsL s (valsP pre) ++ (nodeL (x.1.val : Nat) ++ [32, 45, 62, 32] ++ nodeL (x.2.val : Nat) ++ lblL s) := by rw [valsP_snoc, arrsL_snoc]; rfl
    have HQ : ∀ (act : Act) (W1 W' : World) (v1 : Value), Below W.heap.size W W1 → BW W' wd.heap.size bo ((l ++ arrsL s (valsP pre)) ++ (nodeL (x.1.val : Nat) ++ [32, 45, 62, 32] ++ nodeL (x.2.val : Nat) ++ lblL s)) v1 → Step (some bo) v.ownBlock v1.ownBlock W1 W' →
        ownPostB W7.heap.size W7.heap.size (bo :: (W7.heap.size + 1) :: rb) [5] (fun pre W => (IsS W w.heap.size 77 [.pointer (some ⟨bo, 0, none⟩)] ∧ IsS W (w.heap.size + 1) 9 [.string (bs s)]) ∧ (∃ v, BS W7 wd.heap.size bo v0 (l ++ arrsL s (valsP pre)) W v) ∧ W7.heap.size ≤ W.heap.size) (fun _ _ _ => False) (pre ++ [x]) W .normal act W' := by
      intro act W1 W' v1 hb1 hbw hst
      have hat := hat3.out
      have s1 := hv.s.comp (Step.of_below hb1)
      have k1 : KpB W7.heap.size (bo :: (W7.heap.size + 1) :: rb) [5] W W' := KpB.trans (KpB.of_below hb1) (step_kp (Nat.le_refl _) (hv.b.below hb1) s1 hst (by simp) (fun g e => by simp [hrb1 g e]))
      have k2 : KpB W7.heap.size (bo :: rb) [5] W W' := KpB.trans (KpB.of_below hb1) (step_kp (Nat.le_refl _) (hv.b.below hb1) s1 hst (by simp) (fun g e => by simp [hrb1 g e]))
      have hnr : ∀ g, v.ownBlock = some g → g ≠ w.heap.size ∧ g ≠ w.heap.size + 1 := fun g e => by
        rcases hv.s.row with e0 | ⟨g', e0, hg'⟩
        · rw [e0] at e; have := (hrb2 g (hrb1 g e)).2; omega
        · rw [e0] at e; cases e; omega
      refine ⟨k2.keepsFrom (fun b hb => ?_), k1, ⟨?_, ?_⟩, ⟨v1, ?_, s1.comp hst⟩, Nat.le_trans hS (Nat.le_trans hb1.size hst.size)⟩
      · rcases List.mem_cons.1 hb with e | hb
        · omega
        · have := (hrb2 _ hb).2; omega
      · exact (q3.grown hb1).step hst (fun e => by cases e; omega) (fun e => (hnr _ e.symm).1 rfl)
      · exact (q4.grown hb1).step hst (fun e => by cases e; omega) (fun e => (hnr _ e.symm).2 rfl)
      · rw [hsn, ← List.append_assoc]; exact hbw
    have hlw : (l ++ arrsL s (valsP pre)).length ≤ 274877906944 + 262144 := by rw [List.length_append]; omega
    have hbW := hv.b
    have hwB : wd.heap.size ≤ W.heap.size := HBd.size
    refine wpIn_mono (Q := fun e _ w' => e = Exit.normal ∧ ∃ W1 v1, Below W.heap.size W W1 ∧ BW w' wd.heap.size bo ((l ++ arrsL s (valsP pre)) ++ (nodeL (x.1.val : Nat) ++ [32, 45, 62, 32] ++ nodeL (x.2.val : Nat) ++ lblL s)) v1 ∧ Step (some bo) v.ownBlock v1.ownBlock W1 w') ?_ (fun e a' w' h => by obtain ⟨rfl, W1, v1, g1, g2, g3⟩ := h; exact HQ a' W1 w' v1 g1 g2 g3)
    clear HQ hsn hpl hv hx q3 q4 hS hBx hlen rn tW hrb1 hrb2 y3 y4 T10 HBd HB7 HBW7 HWd7 HWd HTd HT10 HBW HRt HF ce hE4 hsz2 hsz3 hat3 hsz7 hBn hbo hBo hBw hpos
    generalize l ++ arrsL s (valsP pre) = L0 at *
    generalize ((x.1.val : Nat) : Int) = xa at *
    generalize ((x.2.val : Nat) : Int) = xb at *
    have e1 := addL (nodeL xa) [32, 45, 62, 32] (by simp; omega)
    have e2 := addL (nodeL xa ++ [32, 45, 62, 32]) (nodeL xb) (by simp; omega)
    have e3 := addL (nodeL xa ++ [32, 45, 62, 32] ++ nodeL xb) (lblL s) (by simp; omega)
    have lS : (nodeL xa ++ [32, 45, 62, 32] ++ nodeL xb ++ lblL s).length ≤ 64 := by simp only [List.length_append, List.length_cons, List.length_nil]; omega
    generalize nodeL xa ++ [32, 45, 62, 32] ++ nodeL xb ++ lblL s = S3 at *
    generalize nodeL xa ++ [32, 45, 62, 32] ++ nodeL xb = S2 at *
    generalize nodeL xa ++ [32, 45, 62, 32] = S1 at *
    generalize nodeL xa = LA at *
    generalize nodeL xb = LB at *
    generalize lblL s = LS at *
    have b1 : (ByteArray.mk #[32, 45, 62, 32]) = bs [32, 45, 62, 32] := rfl
    rw [b1]
    gi_wp2_with fail
    refine grow_tail_round 12 (by kernel_rfl) (by kernel_rfl) (by kernel_rfl) (WG.out ?_)
    simp only [List.take_succ_cons, List.take_zero, List.drop_succ_cons, List.drop_zero]
    refine WG.cell rfl 77 _ rfl rfl z3 (fun w h => by simp [go_sem, h]) ?_
    simp only [Act.put, List.setIfInBounds_toArray, List.set_cons_succ, List.set_cons_zero]
    refine WG.put rfl (v := .pointer (some ⟨Bx, 0, none⟩)) (fun w => by first | rfl | (go_simp; done) | (simp [go_sem]; done) | (simp [execOp, go_sem]; done)) ?_
    simp only [Act.put, List.setIfInBounds_toArray, List.set_cons_succ, List.set_cons_zero]
    refine WG.cell rfl 3 _ rfl rfl hx0 (fun w h => by simp [go_sem, h]) ?_
    simp only [Act.put, List.setIfInBounds_toArray, List.set_cons_succ, List.set_cons_zero]
    refine WG.call rfl (v := .string (bs LA)) (fun w' hb => ca w' hb) (fun w => by first | rfl | (go_simp; done) | (simp [go_sem]; done) | (simp [execOp, go_sem]; done)) ?_
    simp only [Act.put, List.setIfInBounds_toArray, List.set_cons_succ, List.set_cons_zero]
    refine WG.put rfl (v := .string (bs S1)) (fun w => by first | rfl | (go_simp; done) | (simp [go_sem, e1]; done) | (simp [execOp, go_sem, e1]; done)) ?_
    simp only [Act.put, List.setIfInBounds_toArray, List.set_cons_succ, List.set_cons_zero]
    refine WG.put rfl (v := .pointer (some ⟨Bx, 1, none⟩)) (fun w => by first | rfl | (go_simp; done) | (simp [go_sem]; done) | (simp [execOp, go_sem]; done)) ?_
    simp only [Act.put, List.setIfInBounds_toArray, List.set_cons_succ, List.set_cons_zero]
    refine WG.cell rfl 3 _ rfl rfl hx1 (fun w h => by simp [go_sem, h]) ?_
    simp only [Act.put, List.setIfInBounds_toArray, List.set_cons_succ, List.set_cons_zero]
    refine WG.call rfl (v := .string (bs LB)) (fun w' hb => cb w' hb) (fun w => by first | rfl | (go_simp; done) | (simp [go_sem]; done) | (simp [execOp, go_sem]; done)) ?_
    simp only [Act.put, List.setIfInBounds_toArray, List.set_cons_succ, List.set_cons_zero]
    refine WG.put rfl (v := .string (bs S2)) (fun w => by first | rfl | (go_simp; done) | (simp [go_sem, e2]; done) | (simp [execOp, go_sem, e2]; done)) ?_
    simp only [Act.put, List.setIfInBounds_toArray, List.set_cons_succ, List.set_cons_zero]
    refine WG.cell rfl 9 _ rfl rfl z4 (fun w h => by simp [go_sem, h]) ?_
    simp only [Act.put, List.setIfInBounds_toArray, List.set_cons_succ, List.set_cons_zero]
    refine WG.call rfl (v := .string (bs LS)) (fun w' hb => (cs w').mono fun e w2 h => ⟨h.1, by rw [h.2]; exact Below.refl _ _⟩) (fun w => by first | rfl | (go_simp; done) | (simp [go_sem]; done) | (simp [execOp, go_sem]; done)) ?_
    simp only [Act.put, List.setIfInBounds_toArray, List.set_cons_succ, List.set_cons_zero]
    refine WG.put rfl (v := .string (bs S3)) (fun w => by first | rfl | (go_simp; done) | (simp [go_sem, e3]; done) | (simp [execOp, go_sem, e3]; done)) ?_
    simp only [Act.put, List.setIfInBounds_toArray, List.set_cons_succ, List.set_cons_zero]
    refine WG.nil ?_
    intro w1 hb1
    have cw := writeString_own (bs S3) (hbW.below hb1) (by rw [bs_size]; omega) (Nat.le_trans hwB hb1.size)
    rw [bs_data] at cw
    have hfa : Fence.wide.fn 42 := trivial
    have hfb : (Fence.wide.inRound lo).fn 42 := trivial
    gi_wp2_with (first
      | (gi_at_call 42; refine (CallsIn.inRound _ (callsIn_wide.2 cw)).mono ?_; rintro e w2 ⟨rfl, v1, g1, g2⟩))
    all_goals exact ⟨w1, hb1, v1, g1, g2⟩
  case done =>
    rintro D ys W hD hys ⟨⟨q3, q4⟩, hv, hS⟩ hK
    rw [hys] at hv
    refine ⟨by simp, .inl ⟨_, _, rfl, run_takeDeferred hK, ?_⟩⟩
    obtain ⟨v, hv⟩ := (bs_own (fun _ : Unit => l ++ arrsL s (edgesL N F)) (Nat.le_refl _)).putObj (s := ()) (.deferred none) hv hD hK rfl
    exact ⟨_, results_none rfl _ _ _, rfl, v, hv.b, (Step.of_below HB7.out).comp hv.s⟩
  case stop =>
    rintro D c pre W _ _ h _
    exact h.elim
end Go.Proofs.YtdjlfpkemdiadaaDoor
/- The pairs without one between; a relation's pairs, put down one by one. -/
namespace Go.Proofs.YtdjlfpkemdiadaaDoor
open Go Go.RowKit M
set_option linter.unusedSimpArgs false
set_option linter.unusedVariables false

/-- The pairs that none stands between. -/
def dirQ (N : Nat) (F : Nat → Nat) (a b : Nat) : Bool := (F a).testBit b && !(List.range N).any (fun c => (F a).testBit c && (F c).testBit b)
def dirF (N : Nat) (F : Nat → Nat) : Nat → Nat := prF N (dirQ N F)
theorem dir_same {N : Nat} (hN : N ≤ 64) {F : Nat → Nat} (h : Right N F) (a : Nat) (ha : a < 64) : opF notN F (coF F (edgesL N F)) a = dirF N F a := by
  refine rows_ext (n := N) (fun a b ha => ?_) a ha
  unfold opF notN
  rw [Nat.testBit_and]
  by_cases hb : b < 64
  · rw [testBit_not _ _ ((right_co hN h h).wf a) hb, Bool.eq_iff_iff]
    simp only [Bool.and_eq_true, Bool.not_eq_true', decide_eq_true_eq, dirQ, List.any_eq_false, List.mem_range]
    have hco := co_bit (N := N) F a b h.wf
    constructor
    · rintro ⟨h1, h2⟩
      have h3 := h.in' a ha b hb h1
      refine ⟨⟨h3.1, h3.2⟩, h1, fun c hc => ?_⟩
      intro h4
      rw [hco.2 ⟨h3.1, c, h4⟩] at h2
      cases h2
    · rintro ⟨⟨h1, h2⟩, h3, h4⟩
      refine ⟨h3, ?_⟩
      cases h5 : (coF F (edgesL N F) a).testBit b
      · rfl
      · obtain ⟨_, c, h6, h7⟩ := hco.1 h5
        have h8 := bit_lt64 h.wf h6
        exact absurd ⟨h6, h7⟩ (h4 c (h.in' a ha c h8 h6).2)
  · have e1 : (F a).testBit b = false := by
      cases hq : (F a).testBit b
      · rfl
      · exact absurd (bit_lt64 h.wf hq) hb
    rw [e1]
    have : ¬ b < N := by omega
    simp [this]
theorem right_dir {N : Nat} (hN : N ≤ 64) (F : Nat → Nat) : Right N (dirF N F) := right_pr N hN _
theorem edges_congr {N : Nat} (hN : N ≤ 64) {F G : Nat → Nat} (h : ∀ a, a < 64 → F a = G a) : edgesL N F = edgesL N G := by
  have key : ∀ k, k ≤ N → edgesL k F = edgesL k G := by
    intro k hk
    induction k with
    | zero => rfl
    | succ k ih => rw [edgesL_succ, edgesL_succ, ih (by omega), h k (by omega)]
  exact key N (Nat.le_refl _)
set_option maxRecDepth 100000 in
set_option maxHeartbeats 4000000 in
theorem direct_any {N : Nat} (hN : N ≤ 64) {F : Nat → Nat} (h : Right N F) (w : World) (hT : TabAt w) : Calls Tryd.prog 49 #[relv N F] w fun e w' => e = .returned (relv N (dirF N F)) ∧ Below w.heap.size w w' := by
  have cK : Hid (∀ W, TabAt W → Calls Tryd.prog 38 #[relv N F, relv N F] W fun e w' => e = .returned (relv N (coF F (edgesL N F))) ∧ Below W.heap.size W w') := comp_R hN h h
  have cM : Hid (∀ W, TabAt W → Calls Tryd.prog 40 #[relv N F, relv N (coF F (edgesL N F))] W fun e w' => e = .returned (relv N (opF notN F (coF F (edgesL N F)))) ∧ Below W.heap.size W w') := minus_R hN h (right_co hN h h)
  have HE : Hid (relv N (dirF N F) = relv N (opF notN F (coF F (edgesL N F)))) := relv_congr rfl (fun i hi => (dir_same hN h i hi).symm)
  have HT : Hid (TabAt w) := hT
  generalize dirF N F = D at *
  generalize opF notN F (coF F (edgesL N F)) = O at *
  generalize coF F (edgesL N F) = K at *
  clear hT h
  go_enter Tryd.func49, Tryd.ntmps49
  go_wp2_with (first
    | (refine wpList_boxR rfl _ rfl rfl ?_; intro W1 b1 F1 r1; have B1 := F_b F1; clear F1)
    | (refine wpList_allocR rfl rfl ?_; intro W2 b2 F2 r2; have B2 := Below.then B1 (F_b F2); have q1 := r1.grown (F_b F2); have hb2 : Hid (W1.heap.size ≤ b2) := Nat.le_of_eq F2.at'.symm; clear F2 r1))
  have HB : Hid (Below w.heap.size w W2) := B2
  have HS : Hid (w.heap.size ≤ W1.heap.size) := B1.size
  refine grow_tail 5 (by kernel_rfl) (by kernel_rfl) ?_
  simp only [List.take_succ_cons, List.take_zero, List.drop_succ_cons, List.drop_zero]
  refine WG.out ?_
  refine WG.loadR rfl _ rfl rfl q1 ?_
  simp only [Act.put, List.setIfInBounds_toArray, List.set_cons_succ, List.set_cons_zero]
  refine WG.loadR rfl _ rfl rfl q1 ?_
  simp only [Act.put, List.setIfInBounds_toArray, List.set_cons_succ, List.set_cons_zero]
  refine WG.loadR rfl _ rfl rfl q1 ?_
  simp only [Act.put, List.setIfInBounds_toArray, List.set_cons_succ, List.set_cons_zero]
  refine WG.call rfl (fun w' hw' => cK.out w' (HT.out.below (Below.then HB.out hw'))) (fun w => by first | rfl | (go_simp; done)) ?_
  simp only [Act.put, List.setIfInBounds_toArray, List.set_cons_succ, List.set_cons_zero]
  refine WG.call rfl (fun w' hw' => cM.out w' (HT.out.below (Below.then HB.out hw'))) (fun w => by first | rfl | (go_simp; done)) ?_
  simp only [Act.put, List.setIfInBounds_toArray, List.set_cons_succ, List.set_cons_zero]
  refine WG.nil (fun W6 hw6 => ?_)
  replace r2 := r2.grown hw6
  have B6 := Below.then HB.out hw6
  clear hw6 q1 B1 B2
  go_wp2_with (first
    | (refine wpList_storeR rfl _ _ rfl rfl rfl r2 ?_; intro W7 U7 q7))
  refine ret_R rfl rfl rfl q7 ⟨by rw [HE.out], U7.trans B6 (by have := hb2.out; have := HS.out; omega)⟩
/-- Of a row, what has been put down up to the b-th. -/
def rowP (G : Nat → Nat) (a b : Nat) : List (Nat × Nat) := ((List.range b).filter fun k => (G a).testBit k).map fun k => (a, k)
theorem rowP_zero (G : Nat → Nat) (a : Nat) : rowP G a 0 = [] := rfl
theorem rowP_yes {G : Nat → Nat} {a b : Nat} (h : (G a).testBit b = true) : rowP G a (b + 1) = rowP G a b ++ [(a, b)] := by
  unfold rowP; rw [List.range_succ, List.filter_append, List.map_append]; simp [h]
theorem rowP_no {G : Nat → Nat} {a b : Nat} (h : (G a).testBit b = false) : rowP G a (b + 1) = rowP G a b := by
  unfold rowP; rw [List.range_succ, List.filter_append, List.map_append]; simp [h]
theorem rowP_end {N : Nat} (hN : N ≤ 64) {G : Nat → Nat} (h : Right N G) (a : Nat) (ha : a < 64) : rowP G a N = (lst (G a)).map fun k => (a, k) := by
  unfold rowP lst
  congr 1
  obtain ⟨d, hd⟩ : ∃ d, 64 = N + d := ⟨64 - N, by omega⟩
  rw [hd, List.range_add, List.filter_append]
  have : ((List.range d).map (N + ·)).filter (fun i => (G a).testBit i) = [] := by
    rw [List.filter_eq_nil_iff]
    intro x hx
    obtain ⟨y, hy, rfl⟩ := List.mem_map.1 hx
    intro hb
    have := h.in' a ha (N + y) (by have := List.mem_range.1 hy; omega) hb
    omega
  rw [this, List.append_nil]
theorem edgesL_row {N : Nat} (hN : N ≤ 64) {G : Nat → Nat} (h : Right N G) (a : Nat) (ha : a < N) : edgesL a G ++ rowP G a N = edgesL (a + 1) G := by
  rw [edgesL_succ, rowP_end hN h a (by omega)]
end Go.Proofs.YtdjlfpkemdiadaaDoor
/- Steps that the pictures share with the orders. -/
namespace Go.Proofs.YtdjlfpkemdiadaaDoor
open Go Go.RowKit M
set_option linter.unusedSimpArgs false
set_option linter.unusedVariables false

theorem bit_b2 {X k : Nat} {q : Bool} (h : X.testBit k = q) : ((b2 X k : Nat) : Int) = if q then 1 else 0 := by
  unfold b2; rw [h]; cases q <;> rfl
section
variable {w : World} {b t : Nat} {cs : List Value} {ops : Array Oper} {rest : List Oper} {op : Oper} {a : Act} {Q : Exit → Act → World → Prop}
theorem wpList_rangeWG {o : Nat} (hw : Region.wanted op (yielded ops a.tmps) = true) (ty : TypeId) (x : Operand) (ho : op.op = .load ty x) (hx : a.eval x = .pointer (some ⟨b, o, none⟩)) (hc : w.rangeAt b o cs) (d : TypeDesc)
    (hu : Tryd.prog.underlying ty = some d) (hd : d.isRow = true) (hi : (Tryd.prog.info? ty).map (·.size) = some cs.length)
    (h : wpList Tryd.prog ops Q rest (a.put op.dst (.agg cs.toArray)) w) : wpList Tryd.prog ops Q (op :: rest) a w := by
  have hl := run_loadAt_mid (P := Tryd.prog) w b o ty cs d hc hu hd hi
  refine wpList_runX hw ?_ h
  unfold execOp
  simp only [ho, hx, Sem.run_bind, hl, Result.andThen_ok, Sem.run_pure]
end
end Go.Proofs.YtdjlfpkemdiadaaDoor

/- The library's Builder, told with what stays: WriteString. -/
import Derived.Test.YtbhgchhoeokjhabDoorBU
namespace Go.Proofs.YtbhgchhoeokjhabDoor
open Go.RowKit Go.Shelf M
set_option linter.unusedSimpArgs false
set_option linter.unusedVariables false

/-- Blocks stay, but for a variable's and a row's; the row's is the old one or new. -/
structure Step (bo row row' : Option Nat) (W W' : World) : Prop where
  os : W'.os = W.os
  tape : W'.tape = W.tape
  output : W'.output = W.output
  size : W.heap.size ≤ W'.heap.size
  block : ∀ k, k < W.heap.size → some k ≠ bo → some k ≠ row → W'.heap[k]? = W.heap[k]?
  row : row' = row ∨ ∃ g, row' = some g ∧ W.heap.size ≤ g
theorem Step.comp {bo r0 r1 r2 : Option Nat} {A B C : World} (h : Step bo r0 r1 A B) (k : Step bo r1 r2 B C) : Step bo r0 r2 A C :=
  ⟨k.os.trans h.os, k.tape.trans h.tape, k.output.trans h.output, Nat.le_trans h.size k.size,
   fun i hi h1 h2 => (k.block i (Nat.lt_of_lt_of_le hi h.size) h1 (by
     rcases h.row with e | ⟨g, e, hg⟩
     · rw [e]; exact h2
     · rw [e]; intro e'; cases e'; omega)).trans (h.block i hi h1 h2),
   by
     rcases k.row with e | ⟨g, e, hg⟩
     · rw [e]; exact h.row
     · exact .inr ⟨g, e, Nat.le_trans h.size hg⟩⟩
theorem Step.of_below {bo row : Option Nat} {W W' : World} (h : Below W.heap.size W W') : Step bo row row W W' := ⟨h.os, h.tape, h.output, h.size, fun k hk _ _ => h.block k hk, .inl rfl⟩
theorem Step.of_upd {b : Nat} {row : Option Nat} {W W' : World} (U : Upd W W' b) : Step (some b) row row W W' := ⟨U.os, U.tape, U.output, Nat.le_of_eq U.size.symm, fun k _ hk _ => U.block k (fun e => hk (by rw [e])), .inl rfl⟩
theorem Step.mono {bo r0 r1 : Option Nat} {W W' : World} (h : Step none r0 r1 W W') : Step bo r0 r1 W W' := ⟨h.os, h.tape, h.output, h.size, fun k hk _ h2 => h.block k hk (fun e => by cases e) h2, h.row⟩
theorem Step.below {bo r0 r1 : Option Nat} {W W' : World} {B : Nat} (h : Step bo r0 r1 W W') (hb : ∀ b, bo = some b → B ≤ b) (hr : ∀ b, r0 = some b → B ≤ b) (hB : B ≤ W.heap.size) : Below B W W' :=
  ⟨h.os, h.tape, h.output, h.size, fun k hk => h.block k (by omega) (fun e => by have := hb k e.symm; omega) (fun e => by have := hr k e.symm; omega)⟩
theorem IsS.step {bo r0 r1 : Option Nat} {W W' : World} {b t : Nat} {cs : List Value} (h : IsS W b t cs) (s : Step bo r0 r1 W W') (h1 : some b ≠ bo) (h2 : some b ≠ r0) : IsS W' b t cs := (s.block b h.lt h1 h2).trans h
/-- A builder of one's own: its bytes lie in a row of its own. -/
structure BW (w : World) (B b : Nat) (l : List UInt8) (v : Value) : Prop where
  hB : B ≤ b
  blk : ∃ p, (p = Value.pointer none ∨ p = .pointer (some ⟨b, 0, none⟩)) ∧ IsS w b 60 [p, v]
  own : w.ownsRow B 5 1 v l.length (Lib.byteCells l)
theorem BW.ne {w : World} {B b : Nat} {l : List UInt8} {v : Value} (h : BW w B b l v) : v.ownBlock ≠ some b := by
  obtain ⟨p, _, h2⟩ := h.blk
  exact own_ne h.own h2 (by decide)
theorem BW.below {w w' : World} {B b : Nat} {l : List UInt8} {v : Value} (h : BW w B b l v) (hb : Below w.heap.size w w') : BW w' B b l v := by
  obtain ⟨p, h1, h2⟩ := h.blk
  exact ⟨h.hB, ⟨p, h1, h2.grown hb⟩, own_belowW h.own hb⟩
theorem BW.upd {w w' : World} {B b b' : Nat} {l : List UInt8} {v : Value} (h : BW w B b l v) (U : Upd w w' b') (h1 : b ≠ b') (h2 : v.ownBlock ≠ some b') : BW w' B b l v := by
  obtain ⟨p, h3, h4⟩ := h.blk
  exact ⟨h.hB, ⟨p, h3, h4.upd U h1⟩, own_updN h.own U h2⟩
theorem BW.lib {w : World} {B b : Nat} {l : List UInt8} {v : Value} (h : BW w B b l v) : Lib.IsBuilder 60 5 B b (Lib.byteCells l) w := by
  obtain ⟨p, h1, h2⟩ := h.blk
  have hl : (Lib.byteCells l).length = l.length := by simp [Lib.byteCells]
  rcases h1 with rfl | rfl
  · exact .inl ⟨h.hB, v, h2, by rw [hl]; exact h.own, h.ne⟩
  · exact .inr ⟨h.hB, v, h2, by rw [hl]; exact h.own, h.ne⟩
theorem check_own {B b : Nat} {l : List UInt8} {v : Value} {w : World} (h : BW w B b l v) :
    Calls Tryd.prog 44 #[.pointer (some ⟨b, 0, none⟩)] w fun e w' => e = .returned (.tuple #[]) ∧ IsS w' b 60 [.pointer (some ⟨b, 0, none⟩), v] ∧ w'.ownsRow B 5 1 v l.length (Lib.byteCells l) ∧ Upd w w' b := by
  obtain ⟨p, h1, h2⟩ := h.blk
  rcases h1 with rfl | rfl
  · refine (bcheck_fresh b w (h2.cell 0) (by have h2' : w.heap[b]? = some (.cells #[.pointer none, v] 60 (0, 0)) := h2; simp [World.shape?, h2']) (h2.frozen 0)).mono ?_
    rintro e w' ⟨rfl, rfl⟩
    exact ⟨rfl, h2.set1 0 _, own_updN h.own (Upd.setCell w b 0 _) h.ne, Upd.setCell w b 0 _⟩
  · refine (bcheck_used b w (h2.cell 0)).mono ?_
    rintro e w' ⟨rfl, rfl⟩
    exact ⟨rfl, h2, h.own, Upd.refl _ _⟩
theorem run_appSt {w : World} (B : Nat) (v : Value) (n : Nat) (xs : List Value) (hown : w.ownsRow B 5 1 v n xs) (s : ByteArray) (hn : n + s.size ≤ 33554432) (hB : B ≤ w.heap.size) (ty : TypeId) :
    ∃ v' w', (Builtin.append_ #[58, 9] ty #[v, .string s]).run Tryd.prog w = .ok v' w' ∧ w'.ownsRow B 5 1 v' (n + s.size) (xs ++ Lib.strCells s) ∧ Step none v.ownBlock v'.ownBlock w w' := by
  obtain ⟨i0, hi, hz, hs, hby⟩ := parts5
  obtain ⟨v', w', hr, ho, hg, hnil⟩ := Lib.run_append_own_string (P := Tryd.prog) w B 58 9 ty 5 i0 Tryd.underlying58 Tryd.underlying9 hi hz hs hby v n xs hown s (by unfold maxLen; omega) (by omega) hB
  refine ⟨v', w', hr, ho, hg.os, hg.tape, hg.output, hg.size, fun k hk _ h2 => hg.block k hk h2, ?_⟩
  rcases hown.2 with ⟨rfl, hn0⟩ | ⟨g, cap, cur, rfl, hbg, hgc, hnc, hcm, hcs, htake⟩
  · by_cases h0 : s.size = 0
    · have := hnil.2 ⟨rfl, h0⟩
      rw [this]
      exact .inl rfl
    · have h2 := run_append_nil_string (P := Tryd.prog) w 58 9 ty 5 i0 (.int .u8 0) Tryd.underlying58 Tryd.underlying9 hi hz s (by omega) (by omega) (by rw [hby]; omega)
      rw [hr] at h2
      injection h2 with e1 e2
      rw [e1]
      exact .inr ⟨w.heap.size, rfl, Nat.le_refl _⟩
  · have hcs' : cur.size = cap := by simpa using hcs
    by_cases hroom : n + s.size ≤ cap
    · have h2 := Lib.run_append_room_string (P := Tryd.prog) w 58 9 ty 5 i0 Tryd.underlying58 Tryd.underlying9 hi hs g n cap cur hgc s hroom (by omega)
      rw [hr] at h2
      injection h2 with e1 e2
      rw [e1]
      exact .inl rfl
    · have hxl : xs.length = n := by simpa using hown.1
      have h2 := Lib.run_append_grow_string (P := Tryd.prog) w 58 9 ty 5 i0 (.int .u8 0) Tryd.underlying58 Tryd.underlying9 hi hz ⟨g, 0, none⟩ n cap xs (by rw [hs]; simpa using hxl) (hown.cells (g := g) rfl) s (by omega) (by omega) (by rw [hby]; exact growslice_fits (by omega) (by omega))
      rw [hr] at h2
      injection h2 with e1 e2
      rw [e1]
      exact .inr ⟨w.heap.size, rfl, Nat.le_refl _⟩
section
variable {w : World} {ops : Array Oper} {rest : List Oper} {op : Oper} {a : Act} {Q : Exit → Act → World → Prop}
theorem wpList_appSt (hgd : op.guard = none) (s x : Operand) (ho : op.op = .call { callee := .builtin .append, args := #[s, x], argTypes := #[58, 9] })
    (B : Nat) (v : Value) (n : Nat) (xs : List Value) (hs : a.eval s = v) (hown : w.ownsRow B 5 1 v n xs) (t : ByteArray) (hx : a.eval x = .string t) (hn : n + t.size ≤ 33554432) (hB : B ≤ w.heap.size)
    (h : ∀ v' w', w'.ownsRow B 5 1 v' (n + t.size) (xs ++ Lib.strCells t) → Step none v.ownBlock v'.ownBlock w w' → wpList Tryd.prog ops Q rest (a.put op.dst v') w') : wpList Tryd.prog ops Q (op :: rest) a w := by
  refine wpList_plain hgd fun K hK => ?_
  obtain ⟨v', w', hr, h1, h2⟩ := run_appSt B v n xs hown t hn hB op.type
  unfold Oper.wp execOp
  simp only [ho, resolve, invoke, builtin, Sem.run_bind, Sem.run_pure, Result.andThen_ok, List.map_toArray, List.map_cons, List.map_nil, hs, hx, hr]
  exact hK _ _ (h v' w' h1 h2)
end
set_option maxRecDepth 100000 in
set_option maxHeartbeats 1000000 in
theorem writeString_own {B b : Nat} {l : List UInt8} {v : Value} (s : ByteArray) {w : World} (h : BW w B b l v) (hl : l.length + s.size ≤ 33554432) (hB : B ≤ w.heap.size) :
    Calls Tryd.prog 30 #[.pointer (some ⟨b, 0, none⟩), .string s] w fun e w' => e = .returned (.tuple #[.int .i64 s.size, .nilIface]) ∧ ∃ v', BW w' B b (l ++ s.data.toList) v' ∧ Step (some b) v.ownBlock v'.ownBlock w w' := by
  have hBb := h.hB
  have cC := check_own h
  obtain ⟨a0, c0, rfl⟩ := own_form h.own
  have HL : Hid ((l ++ s.data.toList).length = l.length + s.size) := (by show _ = _; simp)
  have HC : Hid (Lib.byteCells (l ++ s.data.toList) = Lib.byteCells l ++ Lib.strCells s) := (by show _ = _; simp [Lib.byteCells, Lib.strCells])
  clear h
  go_enter Tryd.func30, Tryd.ntmps30
  go_wp2_with (first
    | (go_at_call 44; refine cC.mono ?_; rintro e w1 ⟨rfl, N1, O1x, U1⟩; have O1 : Hid (w1.ownsRow B 5 1 (.slice a0 l.length c0) l.length (Lib.byteCells l)) := O1x; have S1 : Hid (Step (some b) (Value.slice a0 l.length c0).ownBlock (Value.slice a0 l.length c0).ownBlock w w1) := Step.of_upd U1; have hB1 : B ≤ w1.heap.size := (by rw [U1.size]; exact hB); have c1 : w1.cell? ⟨b, 1, none⟩ = some (.slice a0 l.length c0) := N1.cell 1; clear O1x U1 cC)
    | (at_builtin; refine wpList_appSt rfl _ _ rfl B (.slice a0 l.length c0) l.length (Lib.byteCells l) rfl O1.out s rfl (by omega) hB1 ?_; intro v6 w6 O6x S6x; have N6 : IsS w6 b 60 [.pointer (some ⟨b, 0, none⟩), .slice a0 l.length c0] := N1.step S6x (by simp) (fun e => own_ne O1.out N1 (by decide) e.symm); have S6 : Hid (Step (some b) (Value.slice a0 l.length c0).ownBlock v6.ownBlock w w6) := S1.out.comp S6x.mono; have O6 : Hid (w6.ownsRow B 5 1 v6 (l.length + s.size) (Lib.byteCells l ++ Lib.strCells s)) := O6x; clear O6x S6x O1 S1 N1; refine Hid.out ?_))
  refine Lib.hid ?_
  obtain ⟨a1, c2, rfl⟩ := own_form O6.out
  go_wp2_with (first
    | (refine wpList_store1 rfl 58 _ _ rfl rfl (.slice a1 (l.length + s.size) c2) rfl N6 (by simp) infoBy rfl ?_; intro w7 U7 N7))
  go_ret2
  refine ⟨rfl, _, ⟨hBb, ⟨_, .inr rfl, N7⟩, ?_⟩, S6.out.comp (Step.of_upd U7)⟩
  rw [HL.out, HC.out]
  exact own_updN O6.out U7 (own_ne O6.out N6 (by decide))
end Go.Proofs.YtbhgchhoeokjhabDoor

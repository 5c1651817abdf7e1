/- Nodes as a row of one's own; blocks that stay. -/
import Derived.Test.YtcmkoffamolgmaaC1
import Derived.Test.YtcmkoffamolgmaaG0
import Derived.Shelf.Lays
import Derived.BigGuard
import Derived.Lib.AppendIntMem
import Derived.Lib.ItoaMem
import Derived.Lib.Walk
import Derived.Shelf.LaysM
import Derived.Shelf.Strconv.Itoa3
import Derived.Shelf.Strings.Builder1
namespace Go.Proofs.Ytcmkoffamolgmaa
open Go.RowKit Go.Shelf M
set_option linter.unusedSimpArgs false
set_option linter.unusedVariables false


theorem grow_tailW {id : Nat} {Q : Exit → Act → World → Prop} {a : Act} {W : World} {l : List Oper} (n : Nat) (hm : Try.prog.follows .mixedOrders = true) (hB : Region.lexTailB .any l.toArray n = true)
    (h : WG l.toArray W (fun a' => ∀ w', Below W.heap.size W w' → wpList Try.prog l.toArray Q (l.drop n) a' w') (l.take n) a) : (Code.region id l.toArray true).wp Try.prog Q a W := grow_tail n hm hB h.out
def cellsL (out : List Nd) : List Value := out.flatMap ndL
theorem cellsL_len : ∀ out : List Nd, (cellsL out).length = out.length * 6
  | [] => rfl
  | n :: r => by simp only [cellsL, List.flatMap_cons, List.length_append, List.length_cons] at *; rw [show (r.flatMap ndL).length = r.length * 6 from cellsL_len r]; simp [ndL]; omega
theorem cellsL_snoc (out : List Nd) (n : Nd) : cellsL (out ++ [n]) = cellsL out ++ ndL n := by simp [cellsL]
/-- Blocks stay, but for a variable's and a row's; the row's is the old one or new. -/
structure Step (bo row row' : Option Nat) (W W' : World) : Prop where
  os : W'.os = W.os
  tape : W'.tape = W.tape
  output : W'.output = W.output
  size : W.heap.size ≤ W'.heap.size
  block : ∀ k, k < W.heap.size → some k ≠ bo → some k ≠ row → W'.heap[k]? = W.heap[k]?
  row : row' = row ∨ ∃ g, row' = some g ∧ W.heap.size ≤ g
theorem Step.comp {bo r0 r1 r2 : Option Nat} {A B C : World} (h : Step bo r0 r1 A B) (k : Step bo r1 r2 B C) : Step bo r0 r2 A C :=
  ⟨k.os.trans h.os, k.tape.trans h.tape, k.output.trans h.output, Nat.le_trans h.size k.size,
   fun i hi h1 h2 => (k.block i (Nat.lt_of_lt_of_le hi h.size) h1 (by
     rcases h.row with e | ⟨g, e, hg⟩
     · rw [e]; exact h2
     · rw [e]; intro e'; cases e'; omega)).trans (h.block i hi h1 h2),
   by
     rcases k.row with e | ⟨g, e, hg⟩
     · rw [e]; exact h.row
     · exact .inr ⟨g, e, Nat.le_trans h.size hg⟩⟩
theorem Step.of_below {bo row : Option Nat} {W W' : World} (h : Below W.heap.size W W') : Step bo row row W W' := ⟨h.os, h.tape, h.output, h.size, fun k hk _ _ => h.block k hk, .inl rfl⟩
theorem Step.of_upd {b : Nat} {row : Option Nat} {W W' : World} (U : Upd W W' b) : Step (some b) row row W W' := ⟨U.os, U.tape, U.output, Nat.le_of_eq U.size.symm, fun k _ hk _ => U.block k (fun e => hk (by rw [e])), .inl rfl⟩
theorem Step.mono {bo r0 r1 : Option Nat} {W W' : World} (h : Step none r0 r1 W W') : Step bo r0 r1 W W' := ⟨h.os, h.tape, h.output, h.size, fun k hk _ h2 => h.block k hk (fun e => by cases e) h2, h.row⟩
theorem Step.below {bo r0 r1 : Option Nat} {W W' : World} {B : Nat} (h : Step bo r0 r1 W W') (hb : ∀ b, bo = some b → B ≤ b) (hr : ∀ b, r0 = some b → B ≤ b) (hB : B ≤ W.heap.size) : Below B W W' :=
  ⟨h.os, h.tape, h.output, h.size, fun k hk => h.block k (by omega) (fun e => by have := hb k e.symm; omega) (fun e => by have := hr k e.symm; omega)⟩
theorem IsS.step {bo r0 r1 : Option Nat} {W W' : World} {b t : Nat} {cs : List Value} (h : IsS W b t cs) (s : Step bo r0 r1 W W') (h1 : some b ≠ bo) (h2 : some b ≠ r0) : IsS W' b t cs := (s.block b h.lt h1 h2).trans h
theorem partsN : ∃ i, Try.prog.info? 46 = some i ∧ i.zero = some (.agg (ndL noNd).toArray) ∧ i.size = 6 ∧ i.bytes = 56 := by
  have h : (Try.prog.info? 46).map (fun i => (i.zero, i.size, i.bytes)) = some (some (.agg (ndL noNd).toArray), 6, 56) := by kernel_rfl
  exact info_parts h
theorem run_appN {w : World} (B : Nat) (v : Value) (out : List Nd) (hown : w.ownsRow B 46 6 v out.length (cellsL out)) (b c : Nat) (nd : Nd) (hb : IsS w b 46 (ndL nd)) (hn : out.length ≤ 16777216) (hB : B ≤ w.heap.size) (ty : TypeId) :
    ∃ v' w', (Builtin.append_ #[23, 23] ty #[v, .slice (some ⟨b, 0, none⟩) 1 c]).run Try.prog w = .ok v' w' ∧ w'.ownsRow B 46 6 v' (out ++ [nd]).length (cellsL (out ++ [nd])) ∧ Step none v.ownBlock v'.ownBlock w w' := by
  obtain ⟨i0, hi, hz, hs, hby⟩ := partsN
  have hnews : ∀ j u, (ndL nd)[j]? = some u → w.cell? ((⟨b, 0, none⟩ : Addr).add j) = some u := fun j u hj => by rw [Addr.add_mid, Nat.zero_add, hb.cell]; exact hj
  obtain ⟨v', w', hr, ho, hg, _⟩ := run_append_own (P := Try.prog) w B 23 ty 46 i0 (.agg (ndL noNd).toArray) 6 56 Try.underlying23 hi hz hs hby rfl (by decide) v out.length (cellsL out) hown ⟨b, 0, none⟩ 1 c (ndL nd) rfl hnews (nd_one nd) (by unfold maxLen; omega) (by omega) hB
  refine ⟨v', w', hr, by rw [cellsL_snoc, List.length_append]; exact ho, hg.os, hg.tape, hg.output, hg.size, fun k hk _ h2 => hg.block k hk h2, ?_⟩
  rcases hown.2 with ⟨rfl, hn0⟩ | ⟨g, cap, cur, rfl, hbg, hgc, hnc, hcm, hcs, htake⟩
  · have h2 := run_append_nil (P := Try.prog) w 23 ty 46 i0 _ Try.underlying23 hi hz ⟨b, 0, none⟩ 1 c (ndL nd) (by rw [hs]; rfl) hnews (by omega) (by omega) (by rw [hby]; omega)
    rw [hr] at h2
    injection h2 with e1 e2
    rw [e1]
    exact .inr ⟨w.heap.size, rfl, Nat.le_refl _⟩
  · by_cases hroom : out.length + 1 ≤ cap
    · have h2 := run_append_room (P := Try.prog) w 23 ty 46 i0 Try.underlying23 hi g out.length cap cur hgc ⟨b, 0, none⟩ 1 c (ndL nd) (by rw [hs]; rfl) hnews (nd_one nd) hroom (by rw [hs, hcs]; show out.length * 6 + 6 ≤ cap * 6; omega)
      rw [hr] at h2
      injection h2 with e1 e2
      rw [e1]
      exact .inl rfl
    · have h2 := run_append_grow (P := Try.prog) w 23 ty 46 i0 _ Try.underlying23 hi hz ⟨g, 0, none⟩ out.length cap (cellsL out) (by rw [hs]; exact hown.1) (hown.cells (g := g) rfl) ⟨b, 0, none⟩ 1 c (ndL nd) (by rw [hs]; rfl) hnews (by omega) (by omega) (growslice_fits (by omega) (by rw [hby]; omega))
      rw [hr] at h2
      injection h2 with e1 e2
      rw [e1]
      exact .inr ⟨w.heap.size, rfl, Nat.le_refl _⟩
section
variable {w : World} {ops : Array Oper} {rest : List Oper} {op : Oper} {a : Act} {Q : Exit → Act → World → Prop}
theorem wpList_appN (hgd : op.guard = none) (s x : Operand) (ho : op.op = .call { callee := .builtin .append, args := #[s, x], argTypes := #[23, 23] })
    (B : Nat) (v : Value) (out : List Nd) (hs : a.eval s = v) (hown : w.ownsRow B 46 6 v out.length (cellsL out)) (b c : Nat) (nd : Nd) (hx : a.eval x = .slice (some ⟨b, 0, none⟩) 1 c) (hb : IsS w b 46 (ndL nd)) (hn : out.length ≤ 16777216) (hB : B ≤ w.heap.size)
    (h : ∀ v' w', w'.ownsRow B 46 6 v' (out ++ [nd]).length (cellsL (out ++ [nd])) → Step none v.ownBlock v'.ownBlock w w' → wpList Try.prog ops Q rest (a.put op.dst v') w') : wpList Try.prog ops Q (op :: rest) a w := by
  refine wpList_plain hgd fun K hK => ?_
  obtain ⟨v', w', hr, h1, h2⟩ := run_appN B v out hown b c nd hb hn hB op.type
  unfold Oper.wp execOp
  simp only [ho, resolve, invoke, builtin, Sem.run_bind, Sem.run_pure, Result.andThen_ok, List.map_toArray, List.map_cons, List.map_nil, hs, hx, hr]
  exact hK _ _ (h v' w' h1 h2)
theorem wpList_buildN (hgd : op.guard = none) (x : Operand) (ho : op.op = .buildSlice 23 1 #[(0, x)]) (nd : Nd) (hx : a.eval x = .agg (ndL nd).toArray)
    (h : ∀ W b, Fresh w W b → IsS W b 46 (ndL nd) → wpList Try.prog ops Q rest (a.put op.dst (.slice (some ⟨b, 0, none⟩) 1 1)) W) : wpList Try.prog ops Q (op :: rest) a w := by
  refine wpList_plain hgd fun K hK => ?_
  have hr : (execOp a.eval op).run Try.prog w = .ok (.value (.slice (some ⟨w.heap.size, 0, none⟩) 1 1)) (w.alloc (.cells (ndL nd).toArray 46)) := by
    generalize a.eval = ev at hx ⊢
    unfold execOp
    simp [ho, hx, go_sem, Value.cells, ndL]
  unfold Oper.wp
  rw [hr]
  exact hK _ _ (h _ _ (Fresh.alloc w _) (IsS.new w 46 _))
end
end Go.Proofs.Ytcmkoffamolgmaa

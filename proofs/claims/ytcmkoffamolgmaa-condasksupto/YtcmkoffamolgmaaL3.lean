/- back; spoil. -/
import Derived.Test.YtcmkoffamolgmaaL2
namespace Go.Proofs.Ytcmkoffamolgmaa
open Go.RowKit M
set_option linter.unusedSimpArgs false
set_option linter.unusedVariables false

set_option maxRecDepth 100000 in
set_option maxHeartbeats 1000000 in
theorem back_any (g : Nat) (ad : Option Addr) (cap : Nat) (ns : List Nd) (hn : ns.length ≤ 8388608) (w : World) (hG : IsS w g 46 (cellsL (ns ++ [n77]))) (hT : Nds w ad ns) :
    Calls Try.prog 13 #[.slice (some ⟨g, 0, none⟩) ns.length (ns.length + 1), .slice ad ns.length cap] w fun e w' => e = .returned (.bool true) ∧ Below w.heap.size w w' := by
  have hl : Nds w (some ⟨g, 0, none⟩) ns := nds_of_isS (more := ndL n77) (by rw [← cellsL_snoc]; exact hG)
  have cS := same_any (some ⟨g, 0, none⟩) ad (ns.length + 1) cap ns (by omega) w hl hT
  have HC : Hid (∀ W, Below w.heap.size w W → W.cell? ⟨g, ns.length * 6, none⟩ = some (.int .i64 77)) := fun W hB => by
    have := (hG.grown hB).cell (ns.length * 6)
    rw [this, cellsL_snoc, List.getElem?_append_right (by rw [cellsL_len]; exact Nat.le_refl _), cellsL_len, Nat.sub_self]
    rfl
  clear hl hG hT
  go_enter Try.func13, Try.ntmps13
  go_wp2_with (first
    | (go_at_call 22; refine cS.mono ?_; rintro e W1 ⟨rfl, B1⟩; have c1 := HC.out W1 B1))
  go_ret
  exact ⟨rfl, B1⟩

theorem run_appX {w : World} (B : Nat) (v : Value) (n : Nat) (xs : List Value) (hown : w.ownsRow B 46 6 v n xs) (b c : Nat) (nd : Nd) (hb : IsS w b 46 (ndL nd)) (hn : n ≤ 33554432) (hB : B ≤ w.heap.size) (ty : TypeId) :
    ∃ v' w', (Builtin.append_ #[23, 23] ty #[v, .slice (some ⟨b, 0, none⟩) 1 c]).run Try.prog w = .ok v' w' ∧ w'.ownsRow B 46 6 v' (n + 1) (xs ++ ndL nd) ∧ Step none v.ownBlock v'.ownBlock w w' := by
  obtain ⟨i0, hi, hz, hs, hby⟩ := partsN
  have hnews : ∀ j u, (ndL nd)[j]? = some u → w.cell? ((⟨b, 0, none⟩ : Addr).add j) = some u := fun j u hj => by rw [Addr.add_mid, Nat.zero_add, hb.cell]; exact hj
  obtain ⟨v', w', hr, ho, hg, _⟩ := run_append_own (P := Try.prog) w B 23 ty 46 i0 (.agg (ndL noNd).toArray) 6 56 Try.underlying23 hi hz hs hby rfl (by decide) v n xs hown ⟨b, 0, none⟩ 1 c (ndL nd) rfl hnews (nd_one nd) (by unfold maxLen; omega) (by omega) hB
  refine ⟨v', w', hr, ho, hg.os, hg.tape, hg.output, hg.size, fun k hk _ h2 => hg.block k hk h2, ?_⟩
  rcases hown.2 with ⟨rfl, hn0⟩ | ⟨g, cap, cur, rfl, hbg, hgc, hnc, hcm, hcs, htake⟩
  · have h2 := run_append_nil (P := Try.prog) w 23 ty 46 i0 _ Try.underlying23 hi hz ⟨b, 0, none⟩ 1 c (ndL nd) (by rw [hs]; rfl) hnews (by omega) (by omega) (by rw [hby]; omega)
    rw [hr] at h2
    injection h2 with e1 e2
    rw [e1]
    exact .inr ⟨w.heap.size, rfl, Nat.le_refl _⟩
  · by_cases hroom : n + 1 ≤ cap
    · have h2 := run_append_room (P := Try.prog) w 23 ty 46 i0 Try.underlying23 hi g n cap cur hgc ⟨b, 0, none⟩ 1 c (ndL nd) (by rw [hs]; rfl) hnews (nd_one nd) hroom (by rw [hs, hcs]; show n * 6 + 6 ≤ cap * 6; omega)
      rw [hr] at h2
      injection h2 with e1 e2
      rw [e1]
      exact .inl rfl
    · have h2 := run_append_grow (P := Try.prog) w 23 ty 46 i0 _ Try.underlying23 hi hz ⟨g, 0, none⟩ n cap xs (by rw [hs]; exact hown.1) (hown.cells (g := g) rfl) ⟨b, 0, none⟩ 1 c (ndL nd) (by rw [hs]; rfl) hnews (by omega) (by omega) (growslice_fits (by omega) (by rw [hby]; omega))
      rw [hr] at h2
      injection h2 with e1 e2
      rw [e1]
      exact .inr ⟨w.heap.size, rfl, Nat.le_refl _⟩
theorem wpList_appX {w : World} {ops : Array Oper} {rest : List Oper} {op : Oper} {a : Act} {Q : Exit → Act → World → Prop} (hgd : op.guard = none) (s x : Operand) (ho : op.op = .call { callee := .builtin .append, args := #[s, x], argTypes := #[23, 23] })
    (B : Nat) (v : Value) (n : Nat) (xs : List Value) (hs : a.eval s = v) (hown : w.ownsRow B 46 6 v n xs) (b c : Nat) (nd : Nd) (hx : a.eval x = .slice (some ⟨b, 0, none⟩) 1 c) (hb : IsS w b 46 (ndL nd)) (hn : n ≤ 33554432) (hB : B ≤ w.heap.size)
    (h : ∀ v' w', (∃ ys, w'.ownsRow B 46 6 v' (n + 1) ys) → Step none v.ownBlock v'.ownBlock w w' → wpList Try.prog ops Q rest (a.put op.dst v') w') : wpList Try.prog ops Q (op :: rest) a w := by
  refine wpList_plain hgd fun K hK => ?_
  obtain ⟨v', w', hr, h1, h2⟩ := run_appX B v n xs hown b c nd hb hn hB op.type
  unfold Oper.wp execOp
  simp only [ho, resolve, invoke, builtin, Sem.run_bind, Sem.run_pure, Result.andThen_ok, List.map_toArray, List.map_cons, List.map_nil, hs, hx, hr]
  exact hK _ _ (h v' w' ⟨_, h1⟩ h2)
def n99 : Nd := ⟨99, 0, 0, 0, noName, 0⟩
def n98 : Nd := ⟨98, 0, 0, 0, noName, 0⟩
theorem putL_len : ∀ (vs cs : List Value) (o : Nat), (putL cs o vs).length = cs.length
  | [], cs, o => rfl
  | v :: vs, cs, o => by show (putL (cs.set o v) (o + 1) vs).length = _; rw [putL_len vs]; simp
/-- A node of a row of one's own is written over. -/
theorem own_put {W W' : World} {B n g cap j : Nat} {xs : List Value} (h : W.ownsRow B 46 6 (.slice (some ⟨g, 0, none⟩) n cap) n xs) : ∃ cs, IsS W g 46 cs ∧ cs.length = cap * 6 ∧ n ≤ cap ∧ (∀ W' cs', IsS W' g 46 cs' → cs'.length = cap * 6 → ∃ ys, W'.ownsRow B 46 6 (.slice (some ⟨g, 0, none⟩) n cap) n ys) := by
  rcases h.2 with ⟨h', _⟩ | ⟨g', cap', cur, h', hb, hg, hnc, hcm, hcs, htake⟩
  · cases h'
  · cases h'
    refine ⟨cur.toList, by simpa [IsS] using hg, by simpa using hcs, hnc, fun W' cs' hI hl => ⟨cs'.take (n * 6), ?_, .inr ⟨g, cap, cs'.toArray, rfl, hb, hI, hnc, hcm, by simpa using hl, by simp⟩⟩⟩
    rw [List.length_take, hl]
    have : n * 6 ≤ cap * 6 := Nat.mul_le_mul_right _ hnc
    omega

end Go.Proofs.Ytcmkoffamolgmaa

/- Executions as arguments: what a reading of one says of memory; the library's table as the laid variable gives it. -/
import Derived.Test.YtdneaaegllpnlaaDoorEJ17
import Derived.Test.YtdneaaegllpnlaaDoorTie
import Derived.Test.YtdneaaegllpnlaaDoorCards
import Derived.Test.YtdneaaegllpnlaaDoorChecked
import Derived.ProofKit
import Derived.OpenShut
import Derived.LaidMore
import Derived.Lib.LaidTab
import Derived.Stop.Joined
import Derived.Stop.LaidErr
import Derived.SevenTiedAt
import Derived.SizedLaws
import Derived.Lib.RowBridge
import Derived.ChangeMaps5
import Derived.ChangeOld
namespace Go.Proofs.YtdneaaegllpnlaaDoor
open Go.ChangeShapes Go.WideShapes Go.ChangeAt Go.RowKit M
set_option linter.unusedSimpArgs false
set_option linter.unusedVariables false

theorem own : ownKnob Tryd.prog.godebug = none := by kernel_rfl
theorem laidOut : laidOutB Tryd.prog = true := by kernel_rfl
theorem gTab : Tryd.prog.globalNamed "math/bits.deBruijn64tab" = some 1 := by kernel_rfl
theorem tTab : (Tryd.prog.globals[1]?).map (·.type) = some 159 := by kernel_rfl
theorem cellsTb : Tryd.prog.cellsOf 159 = 64 := by kernel_rfl
theorem cells5 : Tryd.prog.cellsOf 5 = 1 := by kernel_rfl
theorem cells3 : Tryd.prog.cellsOf 3 = 1 := by kernel_rfl
theorem cellsEx : Tryd.prog.cellsOf 61 = 5 := by kernel_rfl
theorem cellsSE : Tryd.prog.cellsOf 39 = 1 := by kernel_rfl
theorem cellsSI : Tryd.prog.cellsOf 58 = 1 := by kernel_rfl
theorem cellsSL : Tryd.prog.cellsOf 26 = 1 := by kernel_rfl
theorem cellsSSI : Tryd.prog.cellsOf 59 = 1 := by kernel_rfl
theorem cellsSSL : Tryd.prog.cellsOf 25 = 1 := by kernel_rfl
theorem tab_of_met {W : World} {rest : List (String × DataW Unit)} (h1 : laidMet Tryd.prog (("math/bits.deBruijn64tab", Lib.tabData .u8 (Lib.deBruijn64tab.map fun n : Nat => (n : Int))) :: rest) W) : TabAt W := by
  have h2 := Lib.tabIs_of_head gTab tTab Tryd.underlying159 Tryd.underlying5 cells5 cellsTb h1
  intro j hj
  have h3 := h2.cell gTab j (by rw [List.length_map]; exact hj)
  rw [h3]
  have hl : j < Lib.deBruijn64tab.length := hj
  simp [hl]
theorem take_one {cs : List Value} {v : Value} {i : Nat} (h : List.take 1 (List.drop i cs) = [v]) : cs[i]? = some v := by
  have := congrArg List.head? h
  simpa [List.head?_take, List.head?_drop] using this
theorem flat_get {α : Type} (encE : α → List Value) (k : Nat) (hk : 0 < k) (hlen : ∀ g, (encE g).length = k) : ∀ (xs : List α) (j : Nat) (v : Value), (xs.flatMap encE)[j]? = some v → ∃ g, xs[j / k]? = some g ∧ (encE g)[j % k]? = some v
  | [], j, v, h => by simp at h
  | x :: xs, j, v, h => by
    rw [List.flatMap_cons] at h
    by_cases hj : j < k
    · rw [List.getElem?_append_left (by rw [hlen]; exact hj)] at h
      exact ⟨x, by rw [Nat.div_eq_of_lt hj]; rfl, by rw [Nat.mod_eq_of_lt hj]; exact h⟩
    · rw [List.getElem?_append_right (by rw [hlen]; omega), hlen] at h
      obtain ⟨g, h1, h2⟩ := flat_get encE k hk hlen xs (j - k) v h
      have e1 : j / k = (j - k) / k + 1 := by
        have : j = (j - k) + k := by omega
        conv => lhs; rw [this]
        rw [Nat.add_div_right _ hk]
      have e2 : j % k = (j - k) % k := by
        have : j = (j - k) + k := by omega
        conv => lhs; rw [this]
        rw [Nat.add_mod_right]
      exact ⟨g, by rw [e1]; exact h1, by rw [e2]; exact h2⟩
/-- A slice, read, whatever its elements. -/
theorem open_sl {α : Type} (z0 : α) {T t k : Nat} (hu : Tryd.prog.underlying T = some (.slice t)) (hk : Tryd.prog.cellsOf t = k) (hk0 : 0 < k) (encE : α → List Value) (hlen : ∀ g, (encE g).length = k) (Pw : α → Prop)
    {H : Type} {enc : TypeId × Value → H} {W : World} (opn : ∀ (fuel : Nat) (cs : List Value) (x : DataW H × List MemPlace), DataW.trod enc Tryd.prog W 0 (fun _ => true) true fuel t cs = some x → ∃ g, cs = encE g ∧ Pw g)
    {fuel : Nat} {cs : List Value} {x : DataW H × List MemPlace} (h : DataW.trod enc Tryd.prog W 0 (fun _ => true) true fuel T cs = some x) :
    ∃ (a : Option Addr) (xs : List α) (cap : Nat), cs = [.slice a xs.length cap] ∧ Seg W a (xs.flatMap encE) ∧ (∀ g ∈ xs, Pw g) ∧ (xs = [] ∨ ∃ elems spare, x.1 = .slice elems spare ∧ elems.length = xs.length) ∧ (a = none → cap = 0) ∧ xs.length ≤ cap ∧ cap ≤ 9223372036854775807 := by
  rcases DataW.trod_slice hu h with ⟨hcs, _⟩ | ⟨a, len, cap, elems, rest, n, _, hcs, hx, _, hlc, hcm, hel, hall, _, _⟩
  · exact ⟨none, [], 0, hcs, Seg.nil _ _, (fun g hg => by cases hg), .inl rfl, fun _ => rfl, Nat.le_refl _, by decide⟩
  · rw [hk] at hall
    have one : ∀ i, i < len → ∃ g : α, (∀ j, j < k → W.cell? ((a.add (i * k)).add j) = (encE g)[j]?) ∧ Pw g := fun i hi => by
      have hh := hall i hi
      have hie : i < elems.length := by omega
      rw [List.getElem?_eq_getElem hie] at hh
      obtain ⟨cs', hc, ht⟩ := Option.bind_eq_some_iff.1 hh
      obtain ⟨_, _, hcell⟩ := World.cells?_some hc
      obtain ⟨g, rfl, hg1⟩ := opn _ _ _ ht
      exact ⟨g, hcell, hg1⟩
    obtain ⟨f, hf⟩ : ∃ f : Nat → α, ∀ i, i < len → (∀ j, j < k → W.cell? ((a.add (i * k)).add j) = (encE (f i))[j]?) ∧ Pw (f i) :=
      ⟨fun i => if hi : i < len then Classical.choose (one i hi) else z0, fun i hi => by
        simp only [dif_pos hi]
        exact Classical.choose_spec (one i hi)⟩
    refine ⟨some a, (List.range len).map f, cap, by rw [hcs]; simp, ?_, ?_, .inr ⟨elems.map (·.1), rest.map (·.1), by rw [hx], by simp [hel]⟩, fun e => (by cases e), (by simpa using hlc), (by unfold maxLen at hcm; omega)⟩
    · intro j v hv
      obtain ⟨g, hg, hgv⟩ := flat_get encE k hk0 hlen _ j v hv
      have hq : j / k < len := by have := (List.getElem?_eq_some_iff.1 hg).1; simpa using this
      have hgf : g = f (j / k) := by
        rw [List.getElem?_map, List.getElem?_range hq] at hg
        simpa using hg.symm
      subst hgf
      have hr : j % k < k := Nat.mod_lt _ hk0
      have hc := ((hf _ hq).1 _ hr).trans hgv
      obtain ⟨b, off, spot⟩ := a
      have hspot : spot = none := by
        obtain ⟨u, hu0⟩ : ∃ u, (encE (f 0))[0]? = some u := ⟨_, List.getElem?_eq_getElem (by rw [hlen]; exact hk0)⟩
        have := World.cell?_spot (((hf 0 (Nat.lt_of_le_of_lt (Nat.zero_le _) hq)).1 0 hk0).trans hu0)
        simpa [Addr.add] using this
      subst hspot
      rw [Addr.add_mid, Addr.add_mid] at hc
      have e : off + j / k * k + j % k = off + j := by have := Nat.div_add_mod j k; rw [Nat.mul_comm] at this; omega
      rw [e] at hc
      exact ⟨b, off, rfl, World.block_lt_of_cell? W _ hc, hc⟩
    · intro g hg
      obtain ⟨i, hi, rfl⟩ := List.mem_map.1 hg
      exact (hf i (by simpa using hi)).2
section
variable {H : Type} {enc : TypeId × Value → H} {W : World}
/-- A slice, read, of which the length alone is asked. -/
theorem open_len {T t : Nat} (hu : Tryd.prog.underlying T = some (.slice t)) {fuel : Nat} {cs : List Value} {x : DataW H × List MemPlace} (h : DataW.trod enc Tryd.prog W 0 (fun _ => true) true fuel T cs = some x) :
    ∃ (a : Option Addr) (n cap : Nat), cs = [.slice a n cap] ∧ n ≤ 9223372036854775807 := by
  rcases DataW.trod_slice hu h with ⟨hcs, _⟩ | ⟨a, len, cap, elems, rest, n, _, hcs, hx, _, hlc, hcm, _⟩
  · exact ⟨none, 0, 0, hcs, by decide⟩
  · exact ⟨some a, len, cap, hcs, by unfold maxLen at hcm; omega⟩
theorem open_int1 (fuel : Nat) (cs : List Value) (x : DataW H × List MemPlace) (h : DataW.trod enc Tryd.prog W 0 (fun _ => true) true fuel 3 cs = some x) : ∃ g : Int, cs = intE g ∧ (-9223372036854775808 ≤ g ∧ g ≤ 9223372036854775807) := by
  obtain ⟨k, e0, _, hw⟩ := DataW.trod_int Tryd.underlying3 h
  have hb := bounds_i64 hw
  exact ⟨k, e0, by omega, by omega⟩
abbrev RowA (β : Type) := Option Addr × Nat × List β
def rowE {β : Type} (g : RowA β) : List Value := [.slice g.1 g.2.2.length g.2.1]
def RowP {β : Type} (W : World) (encE : β → List Value) (g : RowA β) : Prop := Seg W g.1 (g.2.2.flatMap encE) ∧ (g.1 = none → g.2.1 = 0) ∧ g.2.2.length ≤ 9223372036854775807
theorem open_row {β : Type} (z0 : β) {T t k : Nat} (hu : Tryd.prog.underlying T = some (.slice t)) (hk : Tryd.prog.cellsOf t = k) (hk0 : 0 < k) (encE : β → List Value) (hlen : ∀ g, (encE g).length = k) (Pw : β → Prop)
    (opn : ∀ (fuel : Nat) (cs : List Value) (x : DataW H × List MemPlace), DataW.trod enc Tryd.prog W 0 (fun _ => true) true fuel t cs = some x → ∃ g, cs = encE g ∧ Pw g)
    (fuel : Nat) (cs : List Value) (x : DataW H × List MemPlace) (h : DataW.trod enc Tryd.prog W 0 (fun _ => true) true fuel T cs = some x) : ∃ g : RowA β, cs = rowE g ∧ RowP W encE g := by
  obtain ⟨a, xs, cap, h1, h2, h3, _, h6, h7, h8⟩ := open_sl z0 hu hk hk0 encE hlen Pw opn h
  exact ⟨(a, cap, xs), h1, h2, h6, by show xs.length ≤ _; omega⟩
theorem rows_of {β : Type} {encE : β → List Value} {a : Option Addr} {cap : Nat} {xs : List (RowA β)} (hs : Seg W a (xs.flatMap rowE)) (hp : ∀ g ∈ xs, RowP W encE g) (hn : a = none → cap = 0) : RowsV W (.slice a (xs.map (·.2.2)).length cap) encE (xs.map (·.2.2)) := by
  refine ⟨xs.map fun g => .slice g.1 g.2.2.length g.2.1, by simp, ⟨a, cap, rfl, ?_, hn⟩, fun j u ys hu hy => ?_⟩
  · rw [show xs.flatMap rowE = xs.map fun g => .slice g.1 g.2.2.length g.2.1 from flat1 _ xs] at hs
    exact hs
  · rw [List.getElem?_map] at hu hy
    cases hg : xs[j]? with
    | none => rw [hg] at hu; cases hu
    | some g =>
      rw [hg] at hu hy
      cases hu; cases hy
      have := hp g (List.mem_of_getElem? hg)
      exact ⟨g.1, g.2.1, rfl, this.1, this.2.1⟩
/-- An execution, read. -/
theorem open_ex (fuel : Nat) (cs : List Value) (x : DataW H × List MemPlace) (h : DataW.trod enc Tryd.prog W 0 (fun _ => true) true fuel 61 cs = some x) :
    ∃ (ne : Nat) (fr : List Int) (od : List (List Int)), XE W cs ne fr od := by
  obtain ⟨ys, n, _, hx, hcl, hyl, hall⟩ := DataW.trod_struct Tryd.underlying61 h
  rw [cellsEx] at hcl
  match ys, hyl, hx, hall with
  | [y0, y1, y2, y3, y4], _, hx, hall =>
    have g0 : DataW.trod enc Tryd.prog W 0 (fun _ => true) true n 39 (List.take (Tryd.prog.cellsOf 39) (List.drop 0 cs)) = some y0 := hall 0 _ rfl
    have g1 : DataW.trod enc Tryd.prog W 0 (fun _ => true) true n 26 (List.take (Tryd.prog.cellsOf 26) (List.drop 1 cs)) = some y1 := hall 1 _ rfl
    have g2 : DataW.trod enc Tryd.prog W 0 (fun _ => true) true n 58 (List.take (Tryd.prog.cellsOf 58) (List.drop 2 cs)) = some y2 := hall 2 _ rfl
    have g3 : DataW.trod enc Tryd.prog W 0 (fun _ => true) true n 59 (List.take (Tryd.prog.cellsOf 59) (List.drop 3 cs)) = some y3 := hall 3 _ rfl
    have g4 : DataW.trod enc Tryd.prog W 0 (fun _ => true) true n 25 (List.take (Tryd.prog.cellsOf 25) (List.drop 4 cs)) = some y4 := hall 4 _ rfl
    rw [cellsSE] at g0
    rw [cellsSL] at g1
    rw [cellsSI] at g2
    rw [cellsSSI] at g3
    rw [cellsSSL] at g4
    obtain ⟨ae, ne, ce, e0, l0⟩ := open_len Tryd.underlying39 g0
    obtain ⟨av, nv, cv, e1, l1⟩ := open_len Tryd.underlying26 g1
    obtain ⟨af, fr, cf, e2, s2, p2, _, n2, m2, l2⟩ := open_sl 0 Tryd.underlying58 cells3 (by decide) intE (fun _ => rfl) (fun g : Int => -9223372036854775808 ≤ g ∧ g ≤ 9223372036854775807) open_int1 g2
    obtain ⟨ao, xo, co, e3, s3, p3, _, n3, m3, l3⟩ := open_sl (none, 0, []) Tryd.underlying59 cellsSI (by decide) rowE (fun _ => rfl) (RowP W intE) (open_row 0 Tryd.underlying58 cells3 (by decide) intE (fun _ => rfl) (fun g : Int => -9223372036854775808 ≤ g ∧ g ≤ 9223372036854775807) open_int1) g3
    obtain ⟨ar, nr, cr, e4, l4⟩ := open_len Tryd.underlying25 g4
    refine ⟨ne, fr, xo.map (·.2.2), hcl, ⟨ae, ce, af, cf, ao, co, take_one e0, take_one e2, ?_, m2, s2, rows_of s3 p3 n3⟩, ?_, l0, by omega, by rw [List.length_map]; omega, fun l hl => ?_⟩
    · rw [List.length_map]; exact take_one e3
    · intro v hv
      obtain ⟨i, hi⟩ := List.getElem?_of_mem hv
      have hi5 : i < 5 := by have := (List.getElem?_eq_some_iff.1 hi).1; omega
      have f0 := take_one e0
      have f1 := take_one e1
      have f2 := take_one e2
      have f3 := take_one e3
      have f4 := take_one e4
      rcases (show i = 0 ∨ i = 1 ∨ i = 2 ∨ i = 3 ∨ i = 4 by omega) with rfl | rfl | rfl | rfl | rfl
      · rw [f0] at hi; cases hi; rfl
      · rw [f1] at hi; cases hi; rfl
      · rw [f2] at hi; cases hi; rfl
      · rw [f3] at hi; cases hi; rfl
      · rw [f4] at hi; cases hi; rfl
    · obtain ⟨g, hg, rfl⟩ := List.mem_map.1 hl
      exact (p3 g hg).2.2
end
end Go.Proofs.YtdneaaegllpnlaaDoor

/- Programs as arguments: what a reading of one says of memory. -/
import Derived.Test.YtdjlfpkemdiadaaDoorXP
import Derived.ProofKit
import Derived.OpenShut
import Derived.SizedLaws
import Derived.Lib.RowBridge
import Derived.ChangeMaps5
import Derived.ChangeOld
import Derived.JoinedCond
namespace Go.Proofs.YtdjlfpkemdiadaaDoor
open Go.ChangeShapes Go.WideShapes Go.ChangeAt Go.RowKit M
set_option linter.unusedSimpArgs false
set_option linter.unusedVariables false

theorem cells2 : Tryd.prog.cellsOf 2 = 1 := by kernel_rfl
theorem cells3 : Tryd.prog.cellsOf 3 = 1 := by kernel_rfl
theorem cells9 : Tryd.prog.cellsOf 9 = 1 := by kernel_rfl
theorem cellsOp : Tryd.prog.cellsOf 58 = 5 := by kernel_rfl
theorem cellsPg : Tryd.prog.cellsOf 28 = 5 := by kernel_rfl
theorem cellsSS : Tryd.prog.cellsOf 24 = 1 := by kernel_rfl
theorem cellsSI : Tryd.prog.cellsOf 26 = 1 := by kernel_rfl
theorem cellsSO : Tryd.prog.cellsOf 59 = 1 := by kernel_rfl
theorem cellsSSS : Tryd.prog.cellsOf 23 = 1 := by kernel_rfl
theorem cellsSSI : Tryd.prog.cellsOf 25 = 1 := by kernel_rfl
theorem cellsSSO : Tryd.prog.cellsOf 22 = 1 := by kernel_rfl
theorem take_one {cs : List Value} {v : Value} {i : Nat} (h : List.take 1 (List.drop i cs) = [v]) : cs[i]? = some v := by
  have := congrArg List.head? h
  simpa [List.head?_take, List.head?_drop] using this
theorem list5 {cs : List Value} {a b c d e : Value} (hl : cs.length = 5) (h0 : cs[0]? = some a) (h1 : cs[1]? = some b) (h2 : cs[2]? = some c) (h3 : cs[3]? = some d) (h4 : cs[4]? = some e) : cs = [a, b, c, d, e] := by
  match cs, hl with
  | [x0, x1, x2, x3, x4], _ => simp at h0 h1 h2 h3 h4; simp [h0, h1, h2, h3, h4]
theorem list2 {cs : List Value} {a b : Value} (hl : cs.length = 2) (h0 : cs[0]? = some a) (h1 : cs[1]? = some b) : cs = [a, b] := by
  match cs, hl with
  | [x0, x1], _ => simp at h0 h1; simp [h0, h1]
theorem bulk_pos {H : Type} (d : DataW H) : 1 ≤ Rows.uptoBulk d := by
  cases d with
  | lit l => cases l <;> simp [Rows.uptoBulk]
  | _ => simp [Rows.uptoBulk]
theorem bulk_len {H : Type} : ∀ ds : List (DataW H), ds.length ≤ Rows.uptoBulkAll ds
  | [] => by simp
  | d :: r => by have := bulk_pos d; have := bulk_len r; simp only [Rows.uptoBulkAll, List.length_cons]; omega
theorem bulk_mem {H : Type} : ∀ (ds : List (DataW H)) (d : DataW H), d ∈ ds → Rows.uptoBulk d ≤ Rows.uptoBulkAll ds
  | x :: r, d, h => by
    simp only [Rows.uptoBulkAll]
    rcases List.mem_cons.1 h with rfl | h
    · omega
    · have := bulk_mem r d h; omega
theorem bulk_sum {α H : Type} (sz : α → Nat) : ∀ (xs : List α) (ds : List (DataW H)), xs.length = ds.length → (∀ (i : Nat) x d, xs[i]? = some x → ds[i]? = some d → sz x ≤ Rows.uptoBulk d) → (xs.map sz).sum ≤ Rows.uptoBulkAll ds
  | [], [], _, _ => by simp
  | x :: xs, d :: ds, hl, h => by
    have h0 := h 0 x d rfl rfl
    have ih := bulk_sum sz xs ds (by simpa using hl) (fun i y e hy he => h (i + 1) y e (by simpa using hy) (by simpa using he))
    simp only [List.map_cons, List.sum_cons, Rows.uptoBulkAll]
    omega
theorem flat_get {α : Type} (encE : α → List Value) (k : Nat) (hk : 0 < k) (hlen : ∀ g, (encE g).length = k) : ∀ (xs : List α) (j : Nat) (v : Value), (xs.flatMap encE)[j]? = some v → ∃ g, xs[j / k]? = some g ∧ (encE g)[j % k]? = some v
  | [], j, v, h => by simp at h
  | x :: xs, j, v, h => by
    rw [List.flatMap_cons] at h
    by_cases hj : j < k
    · rw [List.getElem?_append_left (by rw [hlen]; exact hj)] at h
      exact ⟨x, by rw [Nat.div_eq_of_lt hj]; rfl, by rw [Nat.mod_eq_of_lt hj]; exact h⟩
    · rw [List.getElem?_append_right (by rw [hlen]; omega), hlen] at h
      obtain ⟨g, h1, h2⟩ := flat_get encE k hk hlen xs (j - k) v h
      have e1 : j / k = (j - k) / k + 1 := by
        have : j = (j - k) + k := by omega
        conv => lhs; rw [this]
        rw [Nat.add_div_right _ hk]
      have e2 : j % k = (j - k) % k := by
        have : j = (j - k) + k := by omega
        conv => lhs; rw [this]
        rw [Nat.add_mod_right]
      exact ⟨g, by rw [e1]; exact h1, by rw [e2]; exact h2⟩
/-- A slice, read, whatever its elements. -/
theorem open_sl {α : Type} (z0 : α) {T t k : Nat} (hu : Tryd.prog.underlying T = some (.slice t)) (hk : Tryd.prog.cellsOf t = k) (hk0 : 0 < k) (encE : α → List Value) (hlen : ∀ g, (encE g).length = k) (Pw : α → Prop) (sz : α → Nat)
    {H : Type} {enc : TypeId × Value → H} {W : World} (opn : ∀ (fuel : Nat) (cs : List Value) (x : DataW H × List MemPlace), DataW.trod enc Tryd.prog W 0 (fun _ => true) true fuel t cs = some x → ∃ g, cs = encE g ∧ Pw g ∧ sz g ≤ Rows.uptoBulk x.1)
    {fuel : Nat} {cs : List Value} {x : DataW H × List MemPlace} (h : DataW.trod enc Tryd.prog W 0 (fun _ => true) true fuel T cs = some x) :
    ∃ (a : Option Addr) (xs : List α) (cap : Nat), cs = [.slice a xs.length cap] ∧ Seg W a (xs.flatMap encE) ∧ (∀ g ∈ xs, Pw g) ∧ xs.length ≤ Rows.uptoBulk x.1 ∧ (xs.map sz).sum ≤ Rows.uptoBulk x.1 ∧ (a = none → cap = 0) := by
  rcases DataW.trod_slice hu h with ⟨hcs, _⟩ | ⟨a, len, cap, elems, rest, n, _, hcs, hx, _, _, _, hel, hall, _, _⟩
  · exact ⟨none, [], 0, hcs, Seg.nil _ _, (fun g hg => by cases hg), by simp, by simp, fun _ => rfl⟩
  · rw [hk] at hall
    have one : ∀ i, i < len → ∃ g : α, (∀ j, j < k → W.cell? ((a.add (i * k)).add j) = (encE g)[j]?) ∧ Pw g ∧ ∀ e, elems[i]? = some e → sz g ≤ Rows.uptoBulk e.1 := fun i hi => by
      have hh := hall i hi
      have hie : i < elems.length := by omega
      rw [List.getElem?_eq_getElem hie] at hh
      obtain ⟨cs', hc, ht⟩ := Option.bind_eq_some_iff.1 hh
      obtain ⟨_, _, hcell⟩ := World.cells?_some hc
      obtain ⟨g, rfl, hg1, hg2⟩ := opn _ _ _ ht
      exact ⟨g, hcell, hg1, fun e he => by rw [List.getElem?_eq_getElem hie] at he; cases he; exact hg2⟩
    obtain ⟨f, hf⟩ : ∃ f : Nat → α, ∀ i, i < len → (∀ j, j < k → W.cell? ((a.add (i * k)).add j) = (encE (f i))[j]?) ∧ Pw (f i) ∧ ∀ e, elems[i]? = some e → sz (f i) ≤ Rows.uptoBulk e.1 :=
      ⟨fun i => if hi : i < len then Classical.choose (one i hi) else z0, fun i hi => by
        simp only [dif_pos hi]
        exact Classical.choose_spec (one i hi)⟩
    refine ⟨some a, (List.range len).map f, cap, by rw [hcs]; simp, ?_, ?_, ?_, ?_, fun e => by cases e⟩
    · intro j v hv
      obtain ⟨g, hg, hgv⟩ := flat_get encE k hk0 hlen _ j v hv
      have hq : j / k < len := by have := (List.getElem?_eq_some_iff.1 hg).1; simpa using this
      have hgf : g = f (j / k) := by
        rw [List.getElem?_map, List.getElem?_range hq] at hg
        simpa using hg.symm
      subst hgf
      have hr : j % k < k := Nat.mod_lt _ hk0
      have hc := ((hf _ hq).1 _ hr).trans hgv
      obtain ⟨b, off, spot⟩ := a
      have hspot : spot = none := by
        obtain ⟨u, hu0⟩ : ∃ u, (encE (f 0))[0]? = some u := ⟨_, List.getElem?_eq_getElem (by rw [hlen]; exact hk0)⟩
        have := World.cell?_spot (((hf 0 (Nat.lt_of_le_of_lt (Nat.zero_le _) hq)).1 0 hk0).trans hu0)
        simpa [Addr.add] using this
      subst hspot
      rw [Addr.add_mid, Addr.add_mid] at hc
      have e : off + j / k * k + j % k = off + j := by have := Nat.div_add_mod j k; rw [Nat.mul_comm] at this; omega
      rw [e] at hc
      exact ⟨b, off, rfl, World.block_lt_of_cell? W _ hc, hc⟩
    · intro g hg
      obtain ⟨i, hi, rfl⟩ := List.mem_map.1 hg
      exact (hf i (by simpa using hi)).2.1
    · rw [hx]
      have := bulk_len (elems.map (·.1))
      simp only [Rows.uptoBulk, List.length_map, List.length_range] at *
      omega
    · rw [hx]
      have := bulk_sum sz ((List.range len).map f) (elems.map (·.1)) (by simp [hel]) (fun i y d hy hd => by
        have hi : i < len := by have := (List.getElem?_eq_some_iff.1 hy).1; simpa using this
        rw [List.getElem?_map, List.getElem?_range hi] at hy
        cases hy
        rw [List.getElem?_map] at hd
        cases he : elems[i]? with
        | none => rw [he] at hd; cases hd
        | some e => rw [he] at hd; cases hd; exact (hf i hi).2.2 e he)
      simp only [Rows.uptoBulk] at *
      omega
section
variable {H : Type} {enc : TypeId × Value → H} {W : World}
theorem open_str1 (fuel : Nat) (cs : List Value) (x : DataW H × List MemPlace) (h : DataW.trod enc Tryd.prog W 0 (fun _ => true) true fuel 9 cs = some x) : ∃ g : ByteArray, cs = strE g ∧ g.size ≤ maxLen ∧ 1 ≤ Rows.uptoBulk x.1 := by
  obtain ⟨s, e, _, hs⟩ := DataW.trod_string Tryd.underlying9 h
  exact ⟨s, e, hs, bulk_pos _⟩
theorem open_str2 (fuel : Nat) (cs : List Value) (x : DataW H × List MemPlace) (h : DataW.trod enc Tryd.prog W 0 (fun _ => true) true fuel 9 cs = some x) : ∃ g : ByteArray, cs = strE g ∧ g.size ≤ maxLen ∧ g.size ≤ Rows.uptoBulk x.1 := by
  obtain ⟨s, e, hx, hs⟩ := DataW.trod_string Tryd.underlying9 h
  refine ⟨s, e, hs, ?_⟩
  rw [hx]
  have : s.size = s.data.toList.length := by rw [Array.length_toList]; rfl
  simp only [Rows.uptoBulk]
  omega
theorem open_int1 (fuel : Nat) (cs : List Value) (x : DataW H × List MemPlace) (h : DataW.trod enc Tryd.prog W 0 (fun _ => true) true fuel 2 cs = some x) : ∃ g : Int, cs = intE g ∧ True ∧ 1 ≤ Rows.uptoBulk x.1 := by
  obtain ⟨s, e, _, _⟩ := DataW.trod_int Tryd.underlying2 h
  exact ⟨s, e, trivial, bulk_pos _⟩
theorem open_op1 (fuel : Nat) (cs : List Value) (x : DataW H × List MemPlace) (h : DataW.trod enc Tryd.prog W 0 (fun _ => true) true fuel 58 cs = some x) : ∃ g : Op5, cs = op5L g ∧ True ∧ 1 ≤ Rows.uptoBulk x.1 := by
  obtain ⟨ys, n, _, hx, hcl, hyl, hall⟩ := DataW.trod_struct Tryd.underlying58 h
  rw [cellsOp] at hcl
  match ys, hyl, hx, hall with
  | [y0, y1, y2, y3, y4], _, hx, hall =>
    have g0 : DataW.trod enc Tryd.prog W 0 (fun _ => true) true n 3 (List.take (Tryd.prog.cellsOf 3) (List.drop 0 cs)) = some y0 := hall 0 _ rfl
    have g1 : DataW.trod enc Tryd.prog W 0 (fun _ => true) true n 3 (List.take (Tryd.prog.cellsOf 3) (List.drop 1 cs)) = some y1 := hall 1 _ rfl
    have g2 : DataW.trod enc Tryd.prog W 0 (fun _ => true) true n 3 (List.take (Tryd.prog.cellsOf 3) (List.drop 2 cs)) = some y2 := hall 2 _ rfl
    have g3 : DataW.trod enc Tryd.prog W 0 (fun _ => true) true n 3 (List.take (Tryd.prog.cellsOf 3) (List.drop 3 cs)) = some y3 := hall 3 _ rfl
    have g4 : DataW.trod enc Tryd.prog W 0 (fun _ => true) true n 2 (List.take (Tryd.prog.cellsOf 2) (List.drop 4 cs)) = some y4 := hall 4 _ rfl
    rw [cells3] at g0 g1 g2 g3
    rw [cells2] at g4
    obtain ⟨k, e0, _, _⟩ := DataW.trod_int Tryd.underlying3 g0
    obtain ⟨a, e1, _, _⟩ := DataW.trod_int Tryd.underlying3 g1
    obtain ⟨b, e2, _, _⟩ := DataW.trod_int Tryd.underlying3 g2
    obtain ⟨c, e3, _, _⟩ := DataW.trod_int Tryd.underlying3 g3
    obtain ⟨d, e4, _, _⟩ := DataW.trod_int Tryd.underlying2 g4
    exact ⟨⟨k, a, b, c, d⟩, list5 hcl (take_one e0) (take_one e1) (take_one e2) (take_one e3) (take_one e4), trivial, bulk_pos _⟩
/-- A row among rows. -/
abbrev RowA (β : Type) := Option Addr × Nat × List β
def rowE {β : Type} (g : RowA β) : List Value := [.slice g.1 g.2.2.length g.2.1]
def RowP {β : Type} (W : World) (encE : β → List Value) (Pw : β → Prop) (g : RowA β) : Prop := Seg W g.1 (g.2.2.flatMap encE) ∧ (g.1 = none → g.2.1 = 0) ∧ ∀ b ∈ g.2.2, Pw b
theorem open_row {β : Type} (z0 : β) {T t k : Nat} (hu : Tryd.prog.underlying T = some (.slice t)) (hk : Tryd.prog.cellsOf t = k) (hk0 : 0 < k) (encE : β → List Value) (hlen : ∀ g, (encE g).length = k) (Pw : β → Prop)
    (opn : ∀ (fuel : Nat) (cs : List Value) (x : DataW H × List MemPlace), DataW.trod enc Tryd.prog W 0 (fun _ => true) true fuel t cs = some x → ∃ g, cs = encE g ∧ Pw g ∧ 1 ≤ Rows.uptoBulk x.1)
    (fuel : Nat) (cs : List Value) (x : DataW H × List MemPlace) (h : DataW.trod enc Tryd.prog W 0 (fun _ => true) true fuel T cs = some x) : ∃ g : RowA β, cs = rowE g ∧ RowP W encE Pw g ∧ g.2.2.length ≤ Rows.uptoBulk x.1 := by
  obtain ⟨a, xs, cap, h1, h2, h3, h4, _, h6⟩ := open_sl z0 hu hk hk0 encE hlen Pw (fun _ => 1) opn h
  exact ⟨(a, cap, xs), h1, ⟨h2, h6, h3⟩, h4⟩
theorem rows_of {β : Type} {encE : β → List Value} {Pw : β → Prop} {a : Option Addr} {cap : Nat} {xs : List (RowA β)} (hs : Seg W a (xs.flatMap rowE)) (hp : ∀ g ∈ xs, RowP W encE Pw g) (hn : a = none → cap = 0) : RowsV W (.slice a (xs.map (·.2.2)).length cap) encE (xs.map (·.2.2)) := by
  refine ⟨xs.map fun g => .slice g.1 g.2.2.length g.2.1, by simp, ⟨a, cap, rfl, ?_, hn⟩, fun j u ys hu hy => ?_⟩
  · rw [show xs.flatMap rowE = xs.map fun g => .slice g.1 g.2.2.length g.2.1 from flat1 _ xs] at hs
    exact hs
  · rw [List.getElem?_map] at hu hy
    cases hg : xs[j]? with
    | none => rw [hg] at hu; cases hu
    | some g =>
      rw [hg] at hu hy
      cases hu; cases hy
      have := hp g (List.mem_of_getElem? hg)
      exact ⟨g.1, g.2.1, rfl, this.1, this.2.1⟩
end
end Go.Proofs.YtdjlfpkemdiadaaDoor

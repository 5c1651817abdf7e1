/- Several texts in one: OS, P5. -/
import Derived.Test.YtopnbemodlcknaaDoorCA
import Derived.ProofKit
import Derived.OpenShut
import Derived.SizedLaws
import Derived.Lib.RowBridge
import Derived.ChangeMaps5
import Derived.ChangeOld
import Derived.JoinedCond
import Derived.Test.YtopnbemodlcknaaDoorCC
import Derived.Test.YtopnbemodlcknaaDoorChecked
import Derived.Test.YtopnbemodlcknaaDoorTie
import Derived.Test.YtopnbemodlcknaaDoorCards
import Derived.LaidMore
import Derived.Lib.LaidTab
import Derived.Stop.Joined
import Derived.Stop.LaidErr
import Derived.SevenTiedAt
import Derived.LaidLaws
import Derived.LaidHandle
import Derived.ChangeVars
import Derived.JoinedOf
import Derived.Deep.DeepHandedRow
/- Slices as arguments, whatever their elements: what a reading of one says of memory. -/
namespace Go.Proofs.YtopnbemodlcknaaDoor
open Go.ChangeShapes Go.WideShapes Go.ChangeAt Go.RowKit M
set_option linter.unusedSimpArgs false
set_option linter.unusedVariables false

theorem own : ownKnob Tryd.prog.godebug = none := by kernel_rfl
theorem laidOut : laidOutB Tryd.prog = true := by kernel_rfl
theorem cells2 : Tryd.prog.cellsOf 2 = 1 := by kernel_rfl
theorem cells3 : Tryd.prog.cellsOf 3 = 1 := by kernel_rfl
theorem cells4 : Tryd.prog.cellsOf 4 = 1 := by kernel_rfl
theorem cells9 : Tryd.prog.cellsOf 9 = 1 := by kernel_rfl
theorem take_one {cs : List Value} {v : Value} {i : Nat} (h : List.take 1 (List.drop i cs) = [v]) : cs[i]? = some v := by
  have := congrArg List.head? h
  simpa [List.head?_take, List.head?_drop] using this
theorem list5 {cs : List Value} {a b c d e : Value} (hl : cs.length = 5) (h0 : cs[0]? = some a) (h1 : cs[1]? = some b) (h2 : cs[2]? = some c) (h3 : cs[3]? = some d) (h4 : cs[4]? = some e) : cs = [a, b, c, d, e] := by
  match cs, hl with
  | [x0, x1, x2, x3, x4], _ => simp at h0 h1 h2 h3 h4; simp [h0, h1, h2, h3, h4]
theorem list2 {cs : List Value} {a b : Value} (hl : cs.length = 2) (h0 : cs[0]? = some a) (h1 : cs[1]? = some b) : cs = [a, b] := by
  match cs, hl with
  | [x0, x1], _ => simp at h0 h1; simp [h0, h1]
theorem bulk_pos {H : Type} (d : DataW H) : 1 ≤ Rows.uptoBulk d := by
  cases d with
  | lit l => cases l <;> simp [Rows.uptoBulk]
  | _ => simp [Rows.uptoBulk]
theorem bulk_len {H : Type} : ∀ ds : List (DataW H), ds.length ≤ Rows.uptoBulkAll ds
  | [] => by simp
  | d :: r => by have := bulk_pos d; have := bulk_len r; simp only [Rows.uptoBulkAll, List.length_cons]; omega
theorem bulk_mem {H : Type} : ∀ (ds : List (DataW H)) (d : DataW H), d ∈ ds → Rows.uptoBulk d ≤ Rows.uptoBulkAll ds
  | x :: r, d, h => by
    simp only [Rows.uptoBulkAll]
    rcases List.mem_cons.1 h with rfl | h
    · omega
    · have := bulk_mem r d h; omega
theorem bulk_sum {α H : Type} (sz : α → Nat) : ∀ (xs : List α) (ds : List (DataW H)), xs.length = ds.length → (∀ (i : Nat) x d, xs[i]? = some x → ds[i]? = some d → sz x ≤ Rows.uptoBulk d) → (xs.map sz).sum ≤ Rows.uptoBulkAll ds
  | [], [], _, _ => by simp
  | x :: xs, d :: ds, hl, h => by
    have h0 := h 0 x d rfl rfl
    have ih := bulk_sum sz xs ds (by simpa using hl) (fun i y e hy he => h (i + 1) y e (by simpa using hy) (by simpa using he))
    simp only [List.map_cons, List.sum_cons, Rows.uptoBulkAll]
    omega
theorem flat_get {α : Type} (encE : α → List Value) (k : Nat) (hk : 0 < k) (hlen : ∀ g, (encE g).length = k) : ∀ (xs : List α) (j : Nat) (v : Value), (xs.flatMap encE)[j]? = some v → ∃ g, xs[j / k]? = some g ∧ (encE g)[j % k]? = some v
  | [], j, v, h => by simp at h
  | x :: xs, j, v, h => by
    rw [List.flatMap_cons] at h
    by_cases hj : j < k
    · rw [List.getElem?_append_left (by rw [hlen]; exact hj)] at h
      exact ⟨x, by rw [Nat.div_eq_of_lt hj]; rfl, by rw [Nat.mod_eq_of_lt hj]; exact h⟩
    · rw [List.getElem?_append_right (by rw [hlen]; omega), hlen] at h
      obtain ⟨g, h1, h2⟩ := flat_get encE k hk hlen xs (j - k) v h
      have e1 : j / k = (j - k) / k + 1 := by
        have : j = (j - k) + k := by omega
        conv => lhs; rw [this]
        rw [Nat.add_div_right _ hk]
      have e2 : j % k = (j - k) % k := by
        have : j = (j - k) + k := by omega
        conv => lhs; rw [this]
        rw [Nat.add_mod_right]
      exact ⟨g, by rw [e1]; exact h1, by rw [e2]; exact h2⟩
/-- A slice, read, whatever its elements. -/
theorem open_sl {α : Type} (z0 : α) {T t k : Nat} (hu : Tryd.prog.underlying T = some (.slice t)) (hk : Tryd.prog.cellsOf t = k) (hk0 : 0 < k) (encE : α → List Value) (hlen : ∀ g, (encE g).length = k) (Pw : α → Prop) (sz : α → Nat)
    {H : Type} {enc : TypeId × Value → H} {W : World} (opn : ∀ (fuel : Nat) (cs : List Value) (x : DataW H × List MemPlace), DataW.trod enc Tryd.prog W 0 (fun _ => true) true fuel t cs = some x → ∃ g, cs = encE g ∧ Pw g ∧ sz g ≤ Rows.uptoBulk x.1)
    {fuel : Nat} {cs : List Value} {x : DataW H × List MemPlace} (h : DataW.trod enc Tryd.prog W 0 (fun _ => true) true fuel T cs = some x) :
    ∃ (a : Option Addr) (xs : List α) (cap : Nat), cs = [.slice a xs.length cap] ∧ Seg W a (xs.flatMap encE) ∧ (∀ g ∈ xs, Pw g) ∧ xs.length ≤ Rows.uptoBulk x.1 ∧ (xs.map sz).sum ≤ Rows.uptoBulk x.1 ∧ (a = none → cap = 0) ∧ xs.length ≤ cap ∧ cap ≤ 9223372036854775807 ∧ (xs = [] ∨ ∃ elems spare, x.1 = .slice elems spare ∧ elems.length = xs.length) := by
  rcases DataW.trod_slice hu h with ⟨hcs, _⟩ | ⟨a, len, cap, elems, rest, n, _, hcs, hx, _, hlc, hcm, hel, hall, _, _⟩
  · exact ⟨none, [], 0, hcs, Seg.nil _ _, (fun g hg => by cases hg), by simp, by simp, fun _ => rfl, Nat.le_refl _, by decide, .inl rfl⟩
  · rw [hk] at hall
    have one : ∀ i, i < len → ∃ g : α, (∀ j, j < k → W.cell? ((a.add (i * k)).add j) = (encE g)[j]?) ∧ Pw g ∧ ∀ e, elems[i]? = some e → sz g ≤ Rows.uptoBulk e.1 := fun i hi => by
      have hh := hall i hi
      have hie : i < elems.length := by omega
      rw [List.getElem?_eq_getElem hie] at hh
      obtain ⟨cs', hc, ht⟩ := Option.bind_eq_some_iff.1 hh
      obtain ⟨_, _, hcell⟩ := World.cells?_some hc
      obtain ⟨g, rfl, hg1, hg2⟩ := opn _ _ _ ht
      exact ⟨g, hcell, hg1, fun e he => by rw [List.getElem?_eq_getElem hie] at he; cases he; exact hg2⟩
    obtain ⟨f, hf⟩ : ∃ f : Nat → α, ∀ i, i < len → (∀ j, j < k → W.cell? ((a.add (i * k)).add j) = (encE (f i))[j]?) ∧ Pw (f i) ∧ ∀ e, elems[i]? = some e → sz (f i) ≤ Rows.uptoBulk e.1 :=
      ⟨fun i => if hi : i < len then Classical.choose (one i hi) else z0, fun i hi => by
        simp only [dif_pos hi]
        exact Classical.choose_spec (one i hi)⟩
    refine ⟨some a, (List.range len).map f, cap, by rw [hcs]; simp, ?_, ?_, ?_, ?_, fun e => (by cases e), by simpa using hlc, by unfold maxLen at hcm; omega, .inr ⟨elems.map (·.1), rest.map (·.1), by rw [hx], by simp [hel]⟩⟩
    · intro j v hv
      obtain ⟨g, hg, hgv⟩ := flat_get encE k hk0 hlen _ j v hv
      have hq : j / k < len := by have := (List.getElem?_eq_some_iff.1 hg).1; simpa using this
      have hgf : g = f (j / k) := by
        rw [List.getElem?_map, List.getElem?_range hq] at hg
        simpa using hg.symm
      subst hgf
      have hr : j % k < k := Nat.mod_lt _ hk0
      have hc := ((hf _ hq).1 _ hr).trans hgv
      obtain ⟨b, off, spot⟩ := a
      have hspot : spot = none := by
        obtain ⟨u, hu0⟩ : ∃ u, (encE (f 0))[0]? = some u := ⟨_, List.getElem?_eq_getElem (by rw [hlen]; exact hk0)⟩
        have := World.cell?_spot (((hf 0 (Nat.lt_of_le_of_lt (Nat.zero_le _) hq)).1 0 hk0).trans hu0)
        simpa [Addr.add] using this
      subst hspot
      rw [Addr.add_mid, Addr.add_mid] at hc
      have e : off + j / k * k + j % k = off + j := by have := Nat.div_add_mod j k; rw [Nat.mul_comm] at this; omega
      rw [e] at hc
      exact ⟨b, off, rfl, World.block_lt_of_cell? W _ hc, hc⟩
    · intro g hg
      obtain ⟨i, hi, rfl⟩ := List.mem_map.1 hg
      exact (hf i (by simpa using hi)).2.1
    · rw [hx]
      have := bulk_len (elems.map (·.1))
      simp only [Rows.uptoBulk, List.length_map, List.length_range] at *
      omega
    · rw [hx]
      have := bulk_sum sz ((List.range len).map f) (elems.map (·.1)) (by simp [hel]) (fun i y d hy hd => by
        have hi : i < len := by have := (List.getElem?_eq_some_iff.1 hy).1; simpa using this
        rw [List.getElem?_map, List.getElem?_range hi] at hy
        cases hy
        rw [List.getElem?_map] at hd
        cases he : elems[i]? with
        | none => rw [he] at hd; cases hd
        | some e => rw [he] at hd; cases hd; exact (hf i hi).2.2 e he)
      simp only [Rows.uptoBulk] at *
      omega
section
variable {H : Type} {enc : TypeId × Value → H} {W : World}
theorem open_str1 (fuel : Nat) (cs : List Value) (x : DataW H × List MemPlace) (h : DataW.trod enc Tryd.prog W 0 (fun _ => true) true fuel 9 cs = some x) : ∃ g : ByteArray, cs = strE g ∧ g.size ≤ maxLen ∧ 1 ≤ Rows.uptoBulk x.1 := by
  obtain ⟨s, e, _, hs⟩ := DataW.trod_string Tryd.underlying9 h
  exact ⟨s, e, hs, bulk_pos _⟩
theorem open_str2 (fuel : Nat) (cs : List Value) (x : DataW H × List MemPlace) (h : DataW.trod enc Tryd.prog W 0 (fun _ => true) true fuel 9 cs = some x) : ∃ g : ByteArray, cs = strE g ∧ g.size ≤ maxLen ∧ g.size ≤ Rows.uptoBulk x.1 := by
  obtain ⟨s, e, hx, hs⟩ := DataW.trod_string Tryd.underlying9 h
  refine ⟨s, e, hs, ?_⟩
  rw [hx]
  have : s.size = s.data.toList.length := by rw [Array.length_toList]; rfl
  simp only [Rows.uptoBulk]
  omega
theorem open_i64 (fuel : Nat) (cs : List Value) (x : DataW H × List MemPlace) (h : DataW.trod enc Tryd.prog W 0 (fun _ => true) true fuel 2 cs = some x) : ∃ g : Int, cs = [.int .i64 g] ∧ (-9223372036854775808 ≤ g ∧ g ≤ 9223372036854775807) ∧ 1 ≤ Rows.uptoBulk x.1 := by
  obtain ⟨s, e, _, hw⟩ := DataW.trod_int Tryd.underlying2 h
  have hb := bounds_i64 hw
  exact ⟨s, e, ⟨by omega, by omega⟩, bulk_pos _⟩
theorem open_i (fuel : Nat) (cs : List Value) (x : DataW H × List MemPlace) (h : DataW.trod enc Tryd.prog W 0 (fun _ => true) true fuel 3 cs = some x) : ∃ g : Int, cs = [.int .i64 g] ∧ (-9223372036854775808 ≤ g ∧ g ≤ 9223372036854775807) ∧ 1 ≤ Rows.uptoBulk x.1 := by
  obtain ⟨s, e, _, hw⟩ := DataW.trod_int Tryd.underlying3 h
  have hb := bounds_i64 hw
  exact ⟨s, e, ⟨by omega, by omega⟩, bulk_pos _⟩
abbrev RowA (β : Type) := Option Addr × Nat × List β
def rowE {β : Type} (g : RowA β) : List Value := [.slice g.1 g.2.2.length g.2.1]
def RowP {β : Type} (W : World) (encE : β → List Value) (Pw : β → Prop) (g : RowA β) : Prop := Seg W g.1 (g.2.2.flatMap encE) ∧ (g.1 = none → g.2.1 = 0) ∧ ∀ b ∈ g.2.2, Pw b
theorem open_row {β : Type} (z0 : β) {T t k : Nat} (hu : Tryd.prog.underlying T = some (.slice t)) (hk : Tryd.prog.cellsOf t = k) (hk0 : 0 < k) (encE : β → List Value) (hlen : ∀ g, (encE g).length = k) (Pw : β → Prop)
    (opn : ∀ (fuel : Nat) (cs : List Value) (x : DataW H × List MemPlace), DataW.trod enc Tryd.prog W 0 (fun _ => true) true fuel t cs = some x → ∃ g, cs = encE g ∧ Pw g ∧ 1 ≤ Rows.uptoBulk x.1)
    (fuel : Nat) (cs : List Value) (x : DataW H × List MemPlace) (h : DataW.trod enc Tryd.prog W 0 (fun _ => true) true fuel T cs = some x) : ∃ g : RowA β, cs = rowE g ∧ RowP W encE Pw g ∧ g.2.2.length ≤ Rows.uptoBulk x.1 := by
  obtain ⟨a, xs, cap, h1, h2, h3, h4, _, h6, _⟩ := open_sl z0 hu hk hk0 encE hlen Pw (fun _ => 1) opn h
  exact ⟨(a, cap, xs), h1, ⟨h2, h6, h3⟩, h4⟩
theorem rows_of {β : Type} {encE : β → List Value} {Pw : β → Prop} {a : Option Addr} {cap : Nat} {xs : List (RowA β)} (hs : Seg W a (xs.flatMap rowE)) (hp : ∀ g ∈ xs, RowP W encE Pw g) (hn : a = none → cap = 0) : RowsV W (.slice a (xs.map (·.2.2)).length cap) encE (xs.map (·.2.2)) := by
  refine ⟨xs.map fun g => .slice g.1 g.2.2.length g.2.1, by simp, ⟨a, cap, rfl, ?_, hn⟩, fun j u ys hu hy => ?_⟩
  · rw [show xs.flatMap rowE = xs.map fun g => .slice g.1 g.2.2.length g.2.1 from flat1 _ xs] at hs
    exact hs
  · rw [List.getElem?_map] at hu hy
    cases hg : xs[j]? with
    | none => rw [hg] at hu; cases hu
    | some g =>
      rw [hg] at hu hy
      cases hu; cases hy
      have := hp g (List.mem_of_getElem? hg)
      exact ⟨g.1, g.2.1, rfl, this.1, this.2.1⟩
end
/-- How long a slice that the row admits is. -/
theorem len_sized {H : Type} {ts : List TypeId} {ds : List (DataW H)} (h : (DataW.weightsEach Tryd.prog ts ds).all (· ≤ reachBytes) = true) {j T t by' : Nat} {m : Nat} (ht : ts[j]? = some T) (hu : Tryd.prog.underlying T = some (.slice t)) (hb : Tryd.prog.bytesOf t = by') {d : DataW H} (hj : ds[j]? = some d) (hd : m = 0 ∨ ∃ elems spare, d = .slice elems spare ∧ elems.length = m) : m * by' ≤ 140737488351232 := by
  rcases hd with rfl | ⟨elems, spare, rfl, rfl⟩
  · simp
  · have := sized_slice h ht hj hu
    rw [hb] at this
    simp only [reachBytes] at this
    exact Nat.le_trans (Nat.mul_le_mul_right _ (Nat.le_add_right _ _)) this
end Go.Proofs.YtopnbemodlcknaaDoor
/- CycleParses: for every text the law returns true and leaves its argument as it was; the program's tables that the row lists hold what the program's text lays. -/
namespace Go.Proofs.YtopnbemodlcknaaDoor
open Go.ChangeShapes Go.WideShapes Go.ChangeAt Go.RowKit M
open Go.ChangeMaps (open_string shut_string)
set_option linter.unusedSimpArgs false
set_option linter.unusedVariables false

theorem gNm : Tryd.prog.globalNamed "weir/weirref26.Names" = some 0 := by kernel_rfl
theorem tNm : (Tryd.prog.globals[0]?).map (·.type) = some 25 := by kernel_rfl
theorem gEd : Tryd.prog.globalNamed "weir/cycle.edges" = some 1 := by kernel_rfl
theorem tEd : (Tryd.prog.globals[1]?).map (·.type) = some 39 := by kernel_rfl
theorem cellsNm : Tryd.prog.cellsOf 25 = 18 := by kernel_rfl
theorem cellsEd : Tryd.prog.cellsOf 39 = 90 := by kernel_rfl
theorem cellsE1 : Tryd.prog.cellsOf 38 = 5 := by kernel_rfl
theorem str_lit {s t : ByteArray} (h : (DataW.lit (.string s.data.toList) : DataW Unit) = .lit (.string t.data.toList)) : s = t := by
  injection h with h; injection h with h
  cases s; cases t; simp at h; simpa using h
def nmD : DataW Unit := .agg (NMS.map fun s => .lit (.string s.data.toList))
def edD1 (k : Nat) : DataW Unit := .agg [.lit (.string (nmF k).data.toList), .lit (.int .i64 (knd k)), .lit (.int .i64 (frF k)), .lit (.int .i64 (toF k)), .lit (.bool (outF k))]
def edD : DataW Unit := .agg ((List.range 18).map edD1)
theorem data_nm : Rows.laid_weir_weirref26_Names (H := Unit) = nmD := by kernel_rfl
theorem data_ed : Rows.laid_weir_cycle_edges (H := Unit) = edD := by kernel_rfl
theorem rows_data : Rows.cycleParsesRow.laid = [("weir/weirref26.Names", nmD), ("weir/cycle.edges", edD)] := by kernel_rfl
section
variable {W : World} {sp : Nat → Bool} {enc : TypeId × Value → Unit}
theorem cells_nm {fuel : Nat} {cs : List Value} {p : List MemPlace} (h : DataW.trod enc Tryd.prog W 0 sp false fuel 25 cs = some (nmD, p)) {k : Nat} (hk : k < 18) : cs[k]? = some (.string (nmF k)) := by
  obtain ⟨zs, m, _, hx, hl, hzl, hal⟩ := DataW.trod_array Tryd.underlying25 h
  have h1 := hal k hk
  rw [List.getElem?_eq_getElem (by omega), cells9, Nat.mul_one] at h1
  obtain ⟨s, hs, hv, _⟩ := DataW.trod_string Tryd.underlying9 h1
  have h2 : zs.map (·.1) = NMS.map fun s => DataW.lit (.string s.data.toList) := by
    have := congrArg Prod.fst hx
    injection this with this; exact this.symm
  have h3 : (zs.map (·.1))[k]? = some (zs[k]'(by omega)).1 := by rw [List.getElem?_map, List.getElem?_eq_getElem (by omega)]; rfl
  rw [h2, List.getElem?_map, nms_at hk, hv] at h3
  have h4 := str_lit (Option.some.inj h3)
  rw [h4]
  exact take_one hs
theorem cells_ed {fuel : Nat} {cs : List Value} {p : List MemPlace} (h : DataW.trod enc Tryd.prog W 0 sp false fuel 39 cs = some (edD, p)) {k : Nat} (hk : k < 18) : cs[k * 5]? = some (.string (nmF k)) ∧ cs[k * 5 + 1]? = some (.int .i64 (knd k)) ∧ cs[k * 5 + 2]? = some (.int .i64 (frF k)) ∧ cs[k * 5 + 3]? = some (.int .i64 (toF k)) ∧ cs[k * 5 + 4]? = some (.bool (outF k)) := by
  obtain ⟨zs, m, _, hx, hl, hzl, hal⟩ := DataW.trod_array Tryd.underlying39 h
  have h1 := hal k hk
  rw [List.getElem?_eq_getElem (by omega), cellsE1] at h1
  have h2 : zs.map (·.1) = (List.range 18).map edD1 := by
    have := congrArg Prod.fst hx
    injection this with this; exact this.symm
  have h3 : (zs.map (·.1))[k]? = some (zs[k]'(by omega)).1 := by rw [List.getElem?_map, List.getElem?_eq_getElem (by omega)]; rfl
  rw [h2, List.getElem?_map, List.getElem?_range hk] at h3
  have h4 : (zs[k]'(by omega)).1 = edD1 k := (Option.some.inj h3).symm
  obtain ⟨ys, n, _, hy, hcl, hyl, hall⟩ := DataW.trod_struct Tryd.underlying38 h1
  rw [hy] at h4
  have h5 : ys.map (·.1) = [.lit (.string (nmF k).data.toList), .lit (.int .i64 (knd k)), .lit (.int .i64 (frF k)), .lit (.int .i64 (toF k)), .lit (.bool (outF k))] := by
    injection h4
  match ys, hyl, h5, hall with
  | [y0, y1, y2, y3, y4], _, h5, hall =>
    have g0 : DataW.trod enc Tryd.prog W 0 sp false n 9 (List.take (Tryd.prog.cellsOf 9) (List.drop 0 (List.take 5 (List.drop (k * 5) cs)))) = some y0 := hall 0 _ rfl
    have g1 : DataW.trod enc Tryd.prog W 0 sp false n 3 (List.take (Tryd.prog.cellsOf 3) (List.drop 1 (List.take 5 (List.drop (k * 5) cs)))) = some y1 := hall 1 _ rfl
    have g2 : DataW.trod enc Tryd.prog W 0 sp false n 3 (List.take (Tryd.prog.cellsOf 3) (List.drop 2 (List.take 5 (List.drop (k * 5) cs)))) = some y2 := hall 2 _ rfl
    have g3 : DataW.trod enc Tryd.prog W 0 sp false n 3 (List.take (Tryd.prog.cellsOf 3) (List.drop 3 (List.take 5 (List.drop (k * 5) cs)))) = some y3 := hall 3 _ rfl
    have g4 : DataW.trod enc Tryd.prog W 0 sp false n 4 (List.take (Tryd.prog.cellsOf 4) (List.drop 4 (List.take 5 (List.drop (k * 5) cs)))) = some y4 := hall 4 _ rfl
    rw [cells9] at g0
    rw [cells3] at g1 g2 g3
    rw [cells4] at g4
    obtain ⟨s, e0, x0, _⟩ := DataW.trod_string Tryd.underlying9 g0
    obtain ⟨z1, e1, x1, _⟩ := DataW.trod_int Tryd.underlying3 g1
    obtain ⟨z2, e2, x2, _⟩ := DataW.trod_int Tryd.underlying3 g2
    obtain ⟨z3, e3, x3, _⟩ := DataW.trod_int Tryd.underlying3 g3
    obtain ⟨z4, e4, x4⟩ := DataW.trod_bool Tryd.underlying4 g4
    subst x0 x1 x2 x3 x4
    simp only [List.map_cons, List.map_nil, List.cons.injEq, and_true] at h5
    obtain ⟨q0, q1, q2, q3, q4⟩ := h5
    have r0 := str_lit q0
    have r1 : z1 = knd k := by injection q1 with q; injection q
    have r2 : z2 = frF k := by injection q2 with q; injection q
    have r3 : z3 = toF k := by injection q3 with q; injection q
    have r4 : z4 = outF k := by injection q4 with q; injection q
    subst r0 r1 r2 r3 r4
    have f : ∀ (i : Nat) (v : Value), i < 5 → (List.take 1 (List.drop i (List.take 5 (List.drop (k * 5) cs)))) = [v] → cs[k * 5 + i]? = some v := fun i v hi h => by
      have := take_one h
      rw [List.getElem?_take, if_pos hi, List.getElem?_drop] at this
      exact this
    exact ⟨f 0 _ (by decide) e0, f 1 _ (by decide) e1, f 2 _ (by decide) e2, f 3 _ (by decide) e3, f 4 _ (by decide) e4⟩
end
theorem edl_at {j : Nat} {v : Value} (h : EDL[j]? = some v) : ∃ k f, k < 18 ∧ f < 5 ∧ j = k * 5 + f := by
  have hj := (List.getElem?_eq_some_iff.1 h).1
  rw [edl_len] at hj
  exact ⟨j / 5, j % 5, by omega, by omega, by omega⟩
theorem tabs_of_laid {W : World} (h : laidMetH Tryd.prog Rows.cycleParsesRow.laid W) : EdAt W ∧ NmAt W := by
  rw [MakeChecks.laidMetH_plain _ _ _ (by kernel_rfl), rows_data] at h
  obtain ⟨ps, ⟨g', t', cs, fuel, p, q, hg', ht', hvar, hd, ⟨g2, t2, cs2, fuel2, p2, q2, hg2, ht2, hvar2, hd2, _, _⟩, _⟩, _⟩ := h
  obtain rfl := Option.some.inj (gNm.symm.trans hg')
  obtain rfl := Option.some.inj (tNm.symm.trans ht')
  obtain rfl := Option.some.inj (gEd.symm.trans hg2)
  obtain rfl := Option.some.inj (tEd.symm.trans ht2)
  have h1 : ∀ k, k < 18 → W.cell? ⟨0, k, none⟩ = some (.string (nmF k)) := fun k hk => by
    have := World.var?_cell gNm hvar k
    rw [this, ← cells_nm hd hk, Array.getElem?_toList]
  have h2 : ∀ j v, EDL[j]? = some v → W.cell? ⟨1, j, none⟩ = some v := fun j v hv => by
    obtain ⟨k, f, hk, hf, rfl⟩ := edl_at hv
    have e := World.var?_cell gEd hvar2 (k * 5 + f)
    rw [e, ← Array.getElem?_toList]
    obtain ⟨a0, a1, a2, a3, a4⟩ := ed_at hk
    obtain ⟨b0, b1, b2, b3, b4⟩ := cells_ed hd2 hk
    have hf' : f = 0 ∨ f = 1 ∨ f = 2 ∨ f = 3 ∨ f = 4 := by omega
    rcases hf' with rfl | rfl | rfl | rfl | rfl
    · exact b0.trans (a0.symm.trans hv)
    · exact b1.trans (a1.symm.trans hv)
    · exact b2.trans (a2.symm.trans hv)
    · exact b3.trans (a3.symm.trans hv)
    · exact b4.trans (a4.symm.trans hv)
  refine ⟨⟨fun j v hv => by rw [Nat.zero_add]; exact h2 j v hv, ?_⟩, ⟨fun j v hv => ?_, ?_⟩⟩
  · exact World.block_lt_of_cell? W _ (h2 0 _ rfl)
  · rw [Nat.zero_add]
    rw [List.getElem?_map] at hv
    have hj : j < 18 := by
      cases hq : NMS[j]? with
      | none => rw [hq] at hv; cases hv
      | some s => exact (List.getElem?_eq_some_iff.1 hq).1
    rw [nms_at hj] at hv
    exact (h1 j hj).trans hv
  · exact World.block_lt_of_cell? W _ (h1 0 (by decide))
theorem door_met (os : Os) (args : Array Value) : laidMetH Tryd.prog Rows.cycleParsesRow.laid ((World.doorLaid Tryd.prog 400 os).forCall (fun _ _ => 0) ⟨#[], args, []⟩).memory :=
  laidMetH_of_parts3 (fuel := 8) (laidMet_of_run' 8 (by kernel_rfl) (by kernel_rfl)) (by kernel_rfl) (by kernel_rfl)
set_option maxHeartbeats 800000 in
set_option maxRecDepth 100000 in
theorem cycleParses_lifted (os : Os) (started : os.Started) (H : Type) (enc : TypeId × Value → H) :
    ReturnsInHanded {} Tryd.checked os 3 .any (fun w args => (Rows.cycleParsesSpec.pre enc Tryd.prog Tryd.f3 [] false w args ∧ laidMetH Tryd.prog Rows.cycleParsesRow.laid w) ∧ sizedMet enc Tryd.prog Tryd.f3 (OpenSpec.ofChange Rows.cycleParsesSpec) false w args)
      (Rows.cycleParsesSpec.post enc Tryd.prog Tryd.f3 false true false false) := by
  refine returnsInHanded_of_change_and (C := Tryd.checked) (X := fun w _ => laidMetH Tryd.prog Rows.cycleParsesRow.laid w) (fun _ _ _ hh h => h.of_heap hh) own started (by kernel_rfl) Tryd.func3
    (ChangeSpec.witness_shaped (enc := enc) (C := Tryd.checked) (os := os) (X := fun w _ => laidMetH Tryd.prog Rows.cycleParsesRow.laid w) false (World.doorLaid Tryd.prog 400 os) #[.string ⟨#[]⟩] 8 rfl (World.shaped_of_RefB (by kernel_rfl) (by kernel_rfl)) (by kernel_rfl) (by kernel_rfl) (by kernel_rfl) (door_met os _)) ?_
  intro W base args ds gs before hval0 hW _ hsz0 hL _
  have hsz : (DataW.weightsEach Tryd.prog (Tryd.f3.params.toList ++ Rows.cycleParsesSpec.plain.varTypes Tryd.prog) (ds ++ gs)).all (· ≤ reachBytes) = true := hsz0
  clear hsz0
  have hval : ∀ (j : Nat) t v, Tryd.f3.params[j]? = some t → args[j]? = some v → Value.okWide Tryd.prog W .any base t v := hval0
  have hW' := hW
  obtain ⟨p, q, hA0, hV, rfl, hfz, hnd⟩ := hW
  have hA : DataW.TrodAll enc Tryd.prog W 0 (fun _ => true) true Tryd.f3.params.toList args.toList ds p := hA0
  rw [Tryd.params3] at hA hval hsz
  obtain ⟨v0, vs0, d0, ds0, p0, q0, hargs, rfl, rfl, h0, r0⟩ := trodAll_cons hA
  obtain ⟨rfl, rfl, rfl⟩ := trodAll_nil r0
  obtain rfl : args = #[v0] := by cases args; simp_all
  obtain ⟨rfl, rfl⟩ := trodVars_none hV
  obtain ⟨s, rfl, rfl, rfl, hs⟩ := open_string Tryd.underlying9 (hval 0 9 v0 rfl rfl) h0
  have hlen : s.size < 4611686018427387904 := by
    have := sized_string hsz (j := 0) (t := 9) rfl rfl
    simp only [reachBytes] at this
    simp at this
    omega
  obtain ⟨hE, hN⟩ := tabs_of_laid hL
  have fin := cycleParses_any s hlen W hE hN
  clear hA0 hval0
  refine fin.mono fun e W' ⟨he, bel⟩ => ?_
  subst he
  exact ⟨_, rfl, _, _, _, [], _, [], hW', trodAll_mk1 (shut_bool Tryd.underlying4 _), (trodAll_cons_mk (shut_string Tryd.underlying9 hs) trodAll_mk0), rfl, bel.frame _, fun h => by cases h⟩

theorem cycleParses_said : Rows.CycleParsesSaid :=
  OpenClaim.holds_of_wide 3 Tryd.f3 rfl rfl rfl rfl rfl rfl rfl ⟨rfl, rfl, rfl, rfl, rfl⟩ rfl rfl rfl rfl rfl (by kernel_rfl) Tryd.func3 (by kernel_rfl)
    (of_decide_eq_true (by kernel_rfl)) (by unfold Func.isWrapper; first | (rw [if_pos (by decide +kernel)]; kernel_rfl) | (rw [if_neg (by decide +kernel)]; exact ⟨rfl, rfl⟩))
    (fun os started H enc _ => cycleParses_lifted os started H enc)

theorem cycleParses_holds : Rows.CycleParsesCardSaid :=
  Claim7.holds_tied_plain_at .later [] _ _ _ _
    cycleParses_said (fun _ h => by cases h) (by kernel_rfl) (fun _ h => by cases h) cycleParses_row_tie rfl ⟨rfl, rfl⟩ (by kernel_rfl) rfl
    (fun f fn hf hfn => by
      obtain rfl : f = 3 := Option.some.inj ((show Tryd.prog.funcNamed "weir/weirlaw26.CycleParses" = some 3 by kernel_rfl).symm.trans hf) |>.symm
      obtain rfl : fn = Tryd.f3 := (Option.some.inj (Tryd.func3.symm.trans hfn)).symm
      exact ⟨by kernel_rfl, fun j t ht => by
        rw [Tryd.params3] at ht
        have hm : t ∈ [9] := by simpa using Array.mem_of_getElem? ht
        have hall : ([9].all fun u => !Tryd.prog.wantsStandIn u) = true := by kernel_rfl
        exact (show Tryd.prog.wantsStandIn t = false by simpa using List.all_eq_true.1 hall t hm)⟩)
    (by kernel_rfl)
#print axioms cycleParses_holds
end Go.Proofs.YtopnbemodlcknaaDoor

/- Slices as arguments: what a reading of one says of memory. -/
import Derived.Test.YtimdmiefjnokmaaOF
import Derived.Test.YtimdmiefjnokmaaRW
namespace Go.Proofs.Ytimdmiefjnokmaa
open Go.ChangeShapes Go.WideShapes Go.ChangeAt Go.RowKit M
set_option linter.unusedSimpArgs false
set_option linter.unusedVariables false

theorem flat_get {α : Type} (encE : α → List Value) (k : Nat) (hk : 0 < k) (hlen : ∀ g, (encE g).length = k) : ∀ (xs : List α) (j : Nat) (v : Value), (xs.flatMap encE)[j]? = some v → ∃ g, xs[j / k]? = some g ∧ (encE g)[j % k]? = some v
  | [], j, v, h => by simp at h
  | x :: xs, j, v, h => by
    rw [List.flatMap_cons] at h
    by_cases hj : j < k
    · rw [List.getElem?_append_left (by rw [hlen]; exact hj)] at h
      exact ⟨x, by rw [Nat.div_eq_of_lt hj]; rfl, by rw [Nat.mod_eq_of_lt hj]; exact h⟩
    · rw [List.getElem?_append_right (by rw [hlen]; omega), hlen] at h
      obtain ⟨g, h1, h2⟩ := flat_get encE k hk hlen xs (j - k) v h
      have e1 : j / k = (j - k) / k + 1 := by
        have : j = (j - k) + k := by omega
        conv => lhs; rw [this]
        rw [Nat.add_div_right _ hk]
      have e2 : j % k = (j - k) % k := by
        have : j = (j - k) + k := by omega
        conv => lhs; rw [this]
        rw [Nat.add_mod_right]
      exact ⟨g, by rw [e1]; exact h1, by rw [e2]; exact h2⟩
/-- A slice, read, whatever its elements. -/
theorem open_sl {α : Type} (z0 : α) {T t k : Nat} (hu : Try.prog.underlying T = some (.slice t)) (hk : Try.prog.cellsOf t = k) (hk0 : 0 < k) (encE : α → List Value) (hlen : ∀ g, (encE g).length = k) (Pw : α → Prop)
    {H : Type} {enc : TypeId × Value → H} {W : World} (opn : ∀ (fuel : Nat) (cs : List Value) (x : DataW H × List MemPlace), DataW.trod enc Try.prog W 0 (fun _ => true) true fuel t cs = some x → ∃ g, cs = encE g ∧ Pw g)
    {fuel : Nat} {cs : List Value} {x : DataW H × List MemPlace} (h : DataW.trod enc Try.prog W 0 (fun _ => true) true fuel T cs = some x) :
    ∃ (a : Option Addr) (xs : List α) (cap : Nat), cs = [.slice a xs.length cap] ∧ Seg W a (xs.flatMap encE) ∧ (∀ g ∈ xs, Pw g) ∧ (xs = [] ∨ ∃ elems spare, x.1 = .slice elems spare ∧ elems.length = xs.length) ∧ (a = none → cap = 0) := by
  rcases DataW.trod_slice hu h with ⟨hcs, _⟩ | ⟨a, len, cap, elems, rest, n, _, hcs, hx, _, _, _, hel, hall, _, _⟩
  · exact ⟨none, [], 0, hcs, Seg.nil _ _, (fun g hg => by cases hg), .inl rfl, fun _ => rfl⟩
  · rw [hk] at hall
    have one : ∀ i, i < len → ∃ g : α, (∀ j, j < k → W.cell? ((a.add (i * k)).add j) = (encE g)[j]?) ∧ Pw g := fun i hi => by
      have hh := hall i hi
      have hie : i < elems.length := by omega
      rw [List.getElem?_eq_getElem hie] at hh
      obtain ⟨cs', hc, ht⟩ := Option.bind_eq_some_iff.1 hh
      obtain ⟨_, _, hcell⟩ := World.cells?_some hc
      obtain ⟨g, rfl, hg1⟩ := opn _ _ _ ht
      exact ⟨g, hcell, hg1⟩
    obtain ⟨f, hf⟩ : ∃ f : Nat → α, ∀ i, i < len → (∀ j, j < k → W.cell? ((a.add (i * k)).add j) = (encE (f i))[j]?) ∧ Pw (f i) :=
      ⟨fun i => if hi : i < len then Classical.choose (one i hi) else z0, fun i hi => by
        simp only [dif_pos hi]
        exact Classical.choose_spec (one i hi)⟩
    refine ⟨some a, (List.range len).map f, cap, by rw [hcs]; simp, ?_, ?_, .inr ⟨elems.map (·.1), rest.map (·.1), by rw [hx], by simp [hel]⟩, fun e => by cases e⟩
    · intro j v hv
      obtain ⟨g, hg, hgv⟩ := flat_get encE k hk0 hlen _ j v hv
      have hq : j / k < len := by have := (List.getElem?_eq_some_iff.1 hg).1; simpa using this
      have hgf : g = f (j / k) := by
        rw [List.getElem?_map, List.getElem?_range hq] at hg
        simpa using hg.symm
      subst hgf
      have hr : j % k < k := Nat.mod_lt _ hk0
      have hc := ((hf _ hq).1 _ hr).trans hgv
      obtain ⟨b, off, spot⟩ := a
      have hspot : spot = none := by
        obtain ⟨u, hu0⟩ : ∃ u, (encE (f 0))[0]? = some u := ⟨_, List.getElem?_eq_getElem (by rw [hlen]; exact hk0)⟩
        have := World.cell?_spot (((hf 0 (Nat.lt_of_le_of_lt (Nat.zero_le _) hq)).1 0 hk0).trans hu0)
        simpa [Addr.add] using this
      subst hspot
      rw [Addr.add_mid, Addr.add_mid] at hc
      have e : off + j / k * k + j % k = off + j := by have := Nat.div_add_mod j k; rw [Nat.mul_comm] at this; omega
      rw [e] at hc
      exact ⟨b, off, rfl, World.block_lt_of_cell? W _ hc, hc⟩
    · intro g hg
      obtain ⟨i, hi, rfl⟩ := List.mem_map.1 hg
      exact (hf i (by simpa using hi)).2
theorem bytesF : Try.prog.bytesOf 25 = 392 := by kernel_rfl
/-- A slice of final states, read. -/
theorem open_fins {H : Type} {enc : TypeId × Value → H} {W : World} {fuel : Nat} {cs : List Value} {x : DataW H × List MemPlace} (h : DataW.trod enc Try.prog W 0 (fun _ => true) true fuel 22 cs = some x) :
    ∃ (a : Option Addr) (xs : List FS) (cap : Nat), cs = [.slice a xs.length cap] ∧ Seg W a (flatF xs) ∧ (∀ g ∈ xs, Wf g) ∧ (xs = [] ∨ ∃ elems spare, x.1 = .slice elems spare ∧ elems.length = xs.length) ∧ (a = none → cap = 0) :=
  open_sl FS.zero Try.underlying22 cellsF (by decide) encF encF_len Wf (fun fuel cs x h => open_fin fuel cs x h) h
theorem len_fins {H : Type} {ts : List TypeId} {ds : List (DataW H)} (h : (DataW.weightsEach Try.prog ts ds).all (· ≤ reachBytes) = true) {j : Nat} {xs : List FS} (ht : ts[j]? = some 22) {d : DataW H} (hj : ds[j]? = some d) (hd : xs = [] ∨ ∃ elems spare, d = .slice elems spare ∧ elems.length = xs.length) : xs.length ≤ 4611686018427387903 := by
  rcases hd with rfl | ⟨elems, spare, rfl, he⟩
  · simp
  · have := sized_slice h ht hj Try.underlying22
    rw [bytesF] at this
    simp only [reachBytes] at this
    omega
end Go.Proofs.Ytimdmiefjnokmaa

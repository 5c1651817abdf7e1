/- The table of edges in memory; the program's small functions. -/
import Derived.Test.YtbecabkdnjkkeaaDoorC0
namespace Go.Proofs.YtbecabkdnjkkeaaDoor
open Go Go.RowKit M
set_option linter.unusedSimpArgs false
set_option linter.unusedVariables false

def EdAt (w : World) : Prop := w.rangeAt 0 0 EDL ∧ 0 < w.heap.size
def NmAt (w : World) : Prop := w.rangeAt 1 0 (NMS.map Value.string) ∧ 1 < w.heap.size
theorem EdAt.below {w W : World} (h : EdAt w) (hB : Below w.heap.size w W) : EdAt W := ⟨fun j v hv => (hB.cell (p := ⟨0, 0 + j, none⟩) h.2).trans (h.1 j v hv), Nat.lt_of_lt_of_le h.2 hB.size⟩
theorem NmAt.below {w W : World} (h : NmAt w) (hB : Below w.heap.size w W) : NmAt W := ⟨fun j v hv => (hB.cell (p := ⟨1, 0 + j, none⟩) h.2).trans (h.1 j v hv), Nat.lt_of_lt_of_le h.2 hB.size⟩
def edL (k : Nat) : List Value := [.string (nmF k), .int .i64 (knd k), .int .i64 (frF k), .int .i64 (toF k), .bool (outF k)]
theorem lt18 {k : Nat} (h : k < 18) : k = 0 ∨ k = 1 ∨ k = 2 ∨ k = 3 ∨ k = 4 ∨ k = 5 ∨ k = 6 ∨ k = 7 ∨ k = 8 ∨ k = 9 ∨ k = 10 ∨ k = 11 ∨ k = 12 ∨ k = 13 ∨ k = 14 ∨ k = 15 ∨ k = 16 ∨ k = 17 := by omega
theorem ed_at {k : Nat} (h : k < 18) : EDL[k * 5]? = some (.string (nmF k)) ∧ EDL[k * 5 + 1]? = some (.int .i64 (knd k)) ∧ EDL[k * 5 + 2]? = some (.int .i64 (frF k)) ∧ EDL[k * 5 + 3]? = some (.int .i64 (toF k)) ∧ EDL[k * 5 + 4]? = some (.bool (outF k)) := by
  rcases lt18 h with rfl | rfl | rfl | rfl | rfl | rfl | rfl | rfl | rfl | rfl | rfl | rfl | rfl | rfl | rfl | rfl | rfl | rfl <;> exact ⟨rfl, rfl, rfl, rfl, rfl⟩
theorem EdAt.cells {w : World} (h : EdAt w) {k : Nat} (hk : k < 18) : w.cell? ⟨0, k * 5, none⟩ = some (.string (nmF k)) ∧ w.cell? ⟨0, k * 5 + 1, none⟩ = some (.int .i64 (knd k)) ∧ w.cell? ⟨0, k * 5 + 2, none⟩ = some (.int .i64 (frF k)) ∧ w.cell? ⟨0, k * 5 + 3, none⟩ = some (.int .i64 (toF k)) ∧ w.cell? ⟨0, k * 5 + 4, none⟩ = some (.bool (outF k)) := by
  obtain ⟨h0, h1, h2, h3, h4⟩ := ed_at hk
  have e : ∀ j v, EDL[j]? = some v → w.cell? ⟨0, j, none⟩ = some v := fun j v hv => by have := h.1 j v hv; rwa [Nat.zero_add] at this
  exact ⟨e _ _ h0, e _ _ h1, e _ _ h2, e _ _ h3, e _ _ h4⟩
theorem NmAt.cell {w : World} (h : NmAt w) {k : Nat} (hk : k < 18) : w.cell? ⟨1, k, none⟩ = some (.string (nmF k)) := by
  have := h.1 k (.string (nmF k)) (by rw [List.getElem?_map, nms_at hk]; rfl)
  rwa [Nat.zero_add] at this
theorem idx_edge {k : Nat} (h : k < 18) (W : World) : (Instr.index 50 (.agg EDL.toArray) (.int .i64 (k : Int))).run Tryd.prog W = .ok (.agg (edL k).toArray) W := by
  rcases lt18 h with rfl | rfl | rfl | rfl | rfl | rfl | rfl | rfl | rfl | rfl | rfl | rfl | rfl | rfl | rfl | rfl | rfl | rfl <;> kernel_rfl
theorem edl_len : EDL.length = 90 := rfl
theorem infoEdges : (Tryd.prog.info? 50).map (·.size) = some 90 := by kernel_rfl
theorem infoEdge : (Tryd.prog.info? 49).map (·.size) = some 5 := by kernel_rfl
theorem zeroEdge (w : World) : (zeroValue 49).run Tryd.prog w = .ok (.agg [.string ⟨#[]⟩, .int .i64 0, .int .i64 0, .int .i64 0, .bool false].toArray) w := by
  have h : Tryd.t49.zero = some (.agg [.string ⟨#[]⟩, .int .i64 0, .int .i64 0, .int .i64 0, .bool false].toArray) := by kernel_rfl
  simp [go_sem, zeroValue, h]
theorem ed_one (k : Nat) : ∀ v ∈ edL k, v.oneCell' = true := fun v hv => by
  simp [edL] at hv; rcases hv with rfl | rfl | rfl | rfl | rfl <;> rfl

set_option maxRecDepth 100000 in
theorem goesOut_any {e : Nat} (he : e < 18) (w : World) (hE : EdAt w) : Calls Tryd.prog 26 #[.int .i64 (e : Int)] w fun r w' => r = .returned (.bool (outF e)) ∧ w' = w := by
  obtain ⟨_, _, _, _, h4⟩ := hE.cells he
  have hi : (e : Int) < 18 := by omega
  generalize outF e = x at *
  go_enter Tryd.func26, Tryd.ntmps26
  go_wp2
  go_ret
  exact ⟨rfl, rfl⟩
set_option maxRecDepth 100000 in
theorem leadsAway_any {e : Nat} (he : e < 18) (w : World) (hE : EdAt w) : Calls Tryd.prog 27 #[.int .i64 (e : Int)] w fun r w' => r = .returned (.bool (awF e)) ∧ w' = w := by
  obtain ⟨_, h1, _, _, _⟩ := hE.cells he
  have hi : (e : Int) < 18 := by omega
  have HA : Hid (awF e = (knd e == 3 || knd e == 5)) := rfl
  generalize knd e = x at *
  cases h3 : (x == 3) <;> cases h5 : (x == 5) <;>
  · rw [h3, h5] at HA
    go_enter Tryd.func27, Tryd.ntmps27
    go_wp2
    go_ret
    exact ⟨by rw [HA.out]; rfl, rfl⟩
set_option maxRecDepth 100000 in
theorem ahead_any (n i c : Nat) (a : Option Addr) (hi : i < n) (hn : n ≤ 1048576) (w : World) : Calls Tryd.prog 24 #[.slice a n c, .int .i64 (i : Int)] w fun r w' => r = .returned (.int .i64 (prv n i : Int)) ∧ w' = w := by
  have h1 : (n : Int) ≤ 1048576 := by omega
  have h2 : (i : Int) < n := by omega
  have h3 : (0 : Int) < n := by omega
  have h4 : ¬ (n : Int) = 0 := by omega
  have HP : Hid (((i : Int) + n - 1) % n = (prv n i : Int)) := by
    show _ = _; unfold prv
    rw [show (i : Int) + n - 1 = ((i + n - 1 : Nat) : Int) by omega]; omega
  go_enter Tryd.func24, Tryd.ntmps24
  go_wp2
  go_ret
  exact ⟨ret_int (by first | exact HP.out | (rw [← HP.out]; done)), rfl⟩
end Go.Proofs.YtbecabkdnjkkeaaDoor

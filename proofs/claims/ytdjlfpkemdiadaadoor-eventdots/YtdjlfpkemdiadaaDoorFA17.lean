/- Events in memory; what is asked of one event or of two. -/
import Derived.Test.YtdjlfpkemdiadaaDoorXM
namespace Go.Proofs.YtdjlfpkemdiadaaDoor
open Go.RowKit M
set_option linter.unusedSimpArgs false
set_option linter.unusedVariables false

structure EV where
  kind : Int
  thr : Int
  idx : Int
  loc : Int
  lck : Bool
def ev0 : EV := ⟨0, 0, 0, 0, false⟩
def evL (e : EV) : List Value := [.int .i64 e.kind, .int .i64 e.thr, .int .i64 e.idx, .int .i64 e.loc, .bool e.lck]
theorem ev_oneC (e : EV) : ∀ v ∈ evL e, v.oneCell' = true := by simp [evL, Value.oneCell']
theorem infoEv : (Tryd.prog.info? 46).map (·.size) = some 5 := by kernel_rfl
theorem zeroEv (w : World) : (zeroValue 46).run Tryd.prog w = .ok (.agg (evL ev0).toArray) w := by
  have h : Tryd.t46.zero = some (.agg (evL ev0).toArray) := by kernel_rfl
  simp [go_sem, zeroValue, h]
theorem ev_at : ∀ (l : List EV) (i : Nat) (j : EV), l[i]? = some j → ∀ (e : Nat) (v : Value), (evL j)[e]? = some v → (l.flatMap evL)[i * 5 + e]? = some v
  | [], i, j, h, e, v, hv => by simp at h
  | x :: l, 0, j, h, e, v, hv => by
    obtain rfl : x = j := by simpa using h
    rw [List.flatMap_cons, Nat.zero_mul, Nat.zero_add, List.getElem?_append_left (List.getElem?_eq_some_iff.1 hv).1]
    exact hv
  | x :: l, i + 1, j, h, e, v, hv => by
    rw [List.flatMap_cons, List.getElem?_append_right (by show 5 ≤ _; omega)]
    have := ev_at l i j (by simpa using h) e v hv
    rw [show (i + 1) * 5 + e - (evL x).length = i * 5 + e by show (i + 1) * 5 + e - 5 = _; omega]
    exact this
theorem ev_range {w : World} {a : Option Addr} {l : List EV} (h : Seg w a (l.flatMap evL)) {i : Nat} {j : EV} (hj : l[i]? = some j) : ∃ b o, a = some ⟨b, o, none⟩ ∧ b < w.heap.size ∧ w.rangeAt b (o + i * 5) (evL j) := by
  obtain ⟨b, o, e, hb, _⟩ := h (i * 5 + 0) _ (ev_at l i j hj 0 _ rfl)
  refine ⟨b, o, e, hb, fun k v hv => ?_⟩
  obtain ⟨b', o', e', _, hc⟩ := h (i * 5 + k) v (ev_at l i j hj k v hv)
  rw [e] at e'; cases e'
  rw [Nat.add_assoc]; exact hc
theorem range_grow {w W : World} {b o : Nat} {cs : List Value} (h : w.rangeAt b o cs) (hb : b < w.heap.size) (hB : Below w.heap.size w W) : W.rangeAt b o cs := fun j v hv => (hB.cell (p := ⟨b, o + j, none⟩) hb).trans (h j v hv)
/-- A list as it is taken. -/
def shL (l : List EV) : List EV := if l.length ≤ 64 then l else []
theorem shL_len (l : List EV) : (shL l).length = shN l.length := by unfold shL shN; split <;> rfl
theorem shL_le (l : List EV) : (shL l).length ≤ 64 := by rw [shL_len]; exact shN_le _
theorem kn_seg {w : World} {a : Option Addr} {l : List EV} (h : Seg w a (l.flatMap evL)) (c : Nat) : ∃ a' c', knV a l.length c = .slice a' (shL l).length c' ∧ Seg w a' ((shL l).flatMap evL) := by
  unfold knV shL
  by_cases hl : l.length ≤ 64
  · rw [if_pos hl, if_pos hl]; exact ⟨a, c, rfl, h⟩
  · rw [if_neg hl, if_neg hl]; exact ⟨none, 0, rfl, Seg.nil _ _⟩
/-- What is asked of events. -/
def oneB (a b : EV) : Bool := decide (a.thr = b.thr) && !decide (a.thr = -1)
def locB (a b : EV) : Bool := decide (a.loc = b.loc)
def rmwB (a b : EV) : Bool := oneB a b && decide (a.idx = b.idx)
def wrB (a : EV) : Bool := decide (a.kind = 1) || decide (a.kind = 2)
def rdB (a : EV) : Bool := decide (a.kind = 3)

set_option maxHeartbeats 1000000 in
theorem of1_any (e : EV) (k : Int) (bk : Nat) (w : World) (hk : w.cell? ⟨bk, 0, none⟩ = some (.int .i64 k)) (hb : bk < w.heap.size) : Calls Tryd.prog 83 #[.agg (evL e).toArray, .pointer (some ⟨bk, 0, none⟩)] w fun r w' => r = .returned (.bool (decide (e.kind = k))) ∧ Below w.heap.size w w' := by
  have HB : Hid (bk < w.heap.size) := hb
  have HK : Hid (w.cell? ⟨bk, 0, none⟩ = some (.int .i64 k)) := hk
  clear hb hk
  go_enter Tryd.func83, Tryd.ntmps83
  go_wp2_with (refine wpList_boxS rfl 46 _ rfl (evL e) rfl ?_; intro W1 b1 F1 C1; have B1 := F_b F1; have c0 : W1.cell? ⟨b1, 0, none⟩ = some (.int .i64 e.kind) := C1.cell 0; have ck : W1.cell? ⟨bk, 0, none⟩ = some (.int .i64 k) := (B1.cell (p := ⟨bk, 0, none⟩) HB.out).trans HK.out; clear F1 C1)
  all_goals
    go_ret
    exact ⟨ret_bool (by first | rfl | (simp; done) | (symm; simp; omega) | (simp; omega)), B1⟩
set_option maxHeartbeats 1000000 in
theorem locked1_any (e : EV) (w : World) : Calls Tryd.prog 84 #[.agg (evL e).toArray] w fun r w' => r = .returned (.bool e.lck) ∧ Below w.heap.size w w' := by
  go_enter Tryd.func84, Tryd.ntmps84
  go_wp2_with (refine wpList_boxS rfl 46 _ rfl (evL e) rfl ?_; intro W1 b1 F1 C1; have B1 := F_b F1; have c0 : W1.cell? ⟨b1, 4, none⟩ = some (.bool e.lck) := C1.cell 4; clear F1 C1)
  all_goals
    go_ret
    exact ⟨rfl, B1⟩
set_option maxHeartbeats 1000000 in
theorem one_any (a b : EV) (w : World) : Calls Tryd.prog 33 #[.agg (evL a).toArray, .agg (evL b).toArray] w fun r w' => r = .returned (.bool (oneB a b)) ∧ Below w.heap.size w w' := by
  have HV : Hid (oneB a b = (decide (a.thr = b.thr) && !decide (a.thr = -1))) := rfl
  have t1 : True := trivial
  go_enter Tryd.func33, Tryd.ntmps33
  by_cases h1 : a.thr = b.thr
  · by_cases h2 : a.thr = -1
    all_goals
      go_wp2_with (first
        | (clear t1; refine wpList_boxS rfl 46 _ rfl (evL a) rfl ?_; intro W1 b1 F1 C1; have B1 := F_b F1; clear F1)
        | (refine wpList_boxS rfl 46 _ rfl (evL b) rfl ?_; intro W2 b2 F2 C2; replace B1 := Below.then B1 (F_b F2); replace C1 := C1.fresh F2; have c1 : W2.cell? ⟨b1, 1, none⟩ = some (.int .i64 a.thr) := C1.cell 1; have c2 : W2.cell? ⟨b2, 1, none⟩ = some (.int .i64 b.thr) := C2.cell 1; clear F2 C1 C2))
      all_goals
        go_ret
        exact ⟨ret_bool (by rw [HV.out]; simp [h1, h2]; rfl), B1⟩
  · go_wp2_with (first
      | (clear t1; refine wpList_boxS rfl 46 _ rfl (evL a) rfl ?_; intro W1 b1 F1 C1; have B1 := F_b F1; clear F1)
      | (refine wpList_boxS rfl 46 _ rfl (evL b) rfl ?_; intro W2 b2 F2 C2; replace B1 := Below.then B1 (F_b F2); replace C1 := C1.fresh F2; have c1 : W2.cell? ⟨b1, 1, none⟩ = some (.int .i64 a.thr) := C1.cell 1; have c2 : W2.cell? ⟨b2, 1, none⟩ = some (.int .i64 b.thr) := C2.cell 1; clear F2 C1 C2))
    all_goals
      go_ret
      exact ⟨ret_bool (by rw [HV.out]; simp [h1]), B1⟩
set_option maxHeartbeats 1000000 in
theorem rmw1_any (a b : EV) (w : World) : Calls Tryd.prog 59 #[.agg (evL a).toArray, .agg (evL b).toArray] w fun r w' => r = .returned (.bool (rmwB a b)) ∧ Below w.heap.size w w' := by
  have HV : Hid (rmwB a b = (oneB a b && decide (a.idx = b.idx))) := rfl
  have ho := fun W => one_any a b W
  have t1 : True := trivial
  have t2 : True := trivial
  cases h0 : oneB a b with
  | true =>
    rw [h0] at ho
    have HV1 : Hid (rmwB a b = decide (a.idx = b.idx)) := (HV.out.trans (by rw [h0]; rfl) : rmwB a b = _)
    clear HV h0
    by_cases h1 : a.idx = b.idx
    all_goals
      go_enter Tryd.func59, Tryd.ntmps59
      go_wp2_with (first
        | (clear t1; refine wpList_boxS rfl 46 _ rfl (evL a) rfl ?_; intro W1 b1 F1 C1; have B1 := F_b F1; clear F1)
        | (refine wpList_boxS rfl 46 _ rfl (evL b) rfl ?_; intro W2 b2 F2 C2; replace B1 := Below.then B1 (F_b F2); replace C1 := C1.fresh F2; clear F2)
        | (clear t2; refine wpList_loadW rfl 46 _ rfl rfl C1 _ Tryd.underlying46 rfl infoEv ?_)
        | (refine wpList_loadW rfl 46 _ rfl rfl C2 _ Tryd.underlying46 rfl infoEv ?_)
        | (go_at_call 33; refine (ho _).mono ?_; rintro e W3 ⟨rfl, hw3⟩; replace B1 := Below.then B1 hw3; replace C1 := C1.grown hw3; replace C2 := C2.grown hw3; have c1 : W3.cell? ⟨b1, 2, none⟩ = some (.int .i64 a.idx) := C1.cell 2; have c2 : W3.cell? ⟨b2, 2, none⟩ = some (.int .i64 b.idx) := C2.cell 2; clear hw3 C1 C2))
      all_goals
        go_ret
        exact ⟨ret_bool (by rw [HV1.out]; simp [h1]), B1⟩
  | false =>
    rw [h0] at ho
    have HV1 : Hid (rmwB a b = false) := (HV.out.trans (by rw [h0]; rfl) : rmwB a b = _)
    clear HV h0
    go_enter Tryd.func59, Tryd.ntmps59
    go_wp2_with (first
      | (clear t1; refine wpList_boxS rfl 46 _ rfl (evL a) rfl ?_; intro W1 b1 F1 C1; have B1 := F_b F1; clear F1)
      | (refine wpList_boxS rfl 46 _ rfl (evL b) rfl ?_; intro W2 b2 F2 C2; replace B1 := Below.then B1 (F_b F2); replace C1 := C1.fresh F2; clear F2)
      | (clear t2; refine wpList_loadW rfl 46 _ rfl rfl C1 _ Tryd.underlying46 rfl infoEv ?_)
      | (refine wpList_loadW rfl 46 _ rfl rfl C2 _ Tryd.underlying46 rfl infoEv ?_)
      | (go_at_call 33; refine (ho _).mono ?_; rintro e W3 ⟨rfl, hw3⟩; replace B1 := Below.then B1 hw3; clear hw3 C1 C2))
    all_goals
      go_ret
      exact ⟨ret_bool (by rw [HV1.out]), B1⟩
set_option maxHeartbeats 1000000 in
theorem write_any (e : EV) (w : World) : Calls Tryd.prog 18 #[.agg (evL e).toArray] w fun r w' => r = .returned (.bool (wrB e)) ∧ Below w.heap.size w w' := by
  have HV : Hid (wrB e = (decide (e.kind = 1) || decide (e.kind = 2))) := rfl
  rcases (show e.kind = 1 ∨ (e.kind ≠ 1 ∧ e.kind = 2) ∨ (e.kind ≠ 1 ∧ e.kind ≠ 2) by omega) with h1 | ⟨h1, h2⟩ | ⟨h1, h2⟩
  all_goals
    go_enter Tryd.func18, Tryd.ntmps18
    go_wp2_with (refine wpList_boxS rfl 46 _ rfl (evL e) rfl ?_; intro W1 b1 F1 C1; have B1 := F_b F1; have c0 : W1.cell? ⟨b1, 0, none⟩ = some (.int .i64 e.kind) := C1.cell 0; clear F1 C1)
    all_goals
      go_ret
      exact ⟨ret_bool (by rw [HV.out]; simp_all), B1⟩
set_option maxHeartbeats 1000000 in
theorem read_any (e : EV) (w : World) : Calls Tryd.prog 19 #[.agg (evL e).toArray] w fun r w' => r = .returned (.bool (rdB e)) ∧ Below w.heap.size w w' := by
  have HV : Hid (rdB e = decide (e.kind = 3)) := rfl
  by_cases h1 : e.kind = 3
  all_goals
    go_enter Tryd.func19, Tryd.ntmps19
    go_wp2_with (refine wpList_boxS rfl 46 _ rfl (evL e) rfl ?_; intro W1 b1 F1 C1; have B1 := F_b F1; have c0 : W1.cell? ⟨b1, 0, none⟩ = some (.int .i64 e.kind) := C1.cell 0; clear F1 C1)
    all_goals
      go_ret
      exact ⟨ret_bool (by rw [HV.out]; simp_all), B1⟩
end Go.Proofs.YtdjlfpkemdiadaaDoor

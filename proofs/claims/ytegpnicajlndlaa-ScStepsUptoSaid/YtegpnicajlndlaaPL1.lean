/- PL1 -/
import Derived.Test.YtegpnicajlndlaaQbi
namespace Go.Proofs.Ytegpnicajlndlaa
open Go.RowKit M
set_option linter.unusedSimpArgs false
set_option linter.unusedVariables false
def idleB (s : ST) (i : Nat) : Bool := decide (s.ph.getD i 0 = 0) && (s.buf.getD i []).isEmpty
def plainB (s : ST) : Bool := (List.range s.pc.length).all (idleB s) && decide (s.lock = -1)
theorem plain_no {s : ST} {i : Nat} (hi : i < s.pc.length) (h : idleB s i = false) : plainB s = false := by
 unfold plainB
 have : (List.range s.pc.length).all (idleB s) = false := by
  rw [List.all_eq_false]
  exact ⟨i, List.mem_range.2 hi, by rw [h]; simp⟩
 rw [this]; rfl
theorem plain_end {s : ST} (h : ∀ i, i < s.pc.length → idleB s i = true) : plainB s = decide (s.lock = -1) := by
 unfold plainB
 have : (List.range s.pc.length).all (idleB s) = true := by
  rw [List.all_eq_true]
  exact fun i hi => h i (List.mem_range.1 hi)
 rw [this]; rfl
theorem plain_lock {s : ST} (h : s.lock ≠ -1) : plainB s = false := by
 unfold plainB; simp [h]
theorem plain_of {s : ST} (h : plainB s = true) : s.lock = -1 ∧ ∀ i, i < s.pc.length → s.ph.getD i 0 = 0 ∧ s.buf.getD i [] = [] := by
 unfold plainB at h
 simp only [Bool.and_eq_true, List.all_eq_true, List.mem_range, decide_eq_true_eq] at h
 refine ⟨h.2, fun i hi => ?_⟩
 have := h.1 i hi
 unfold idleB at this
 simp only [Bool.and_eq_true, decide_eq_true_eq, List.isEmpty_iff] at this
 exact this
theorem idle_of {s : ST} {i : Nat} {x : Int} {b : List (Int × Int)} (hx : s.ph[i]? = some x) (hb : s.buf[i]? = some b) : idleB s i = (decide (x = 0) && b.isEmpty) := by
 unfold idleB
 rw [List.getD_eq_getElem?_getD, List.getD_eq_getElem?_getD, hx, hb]; rfl
set_option maxRecDepth 100000 in
set_option maxHeartbeats 4000000 in
theorem plain_any (s : ST) (n : Nat) (hf : s.Few) (hn : s.pc.length = n) (hph : s.ph.length = n) (hbf : s.buf.length = n) (v1 v2 v3 v4 v5 : Value) (w : World) (hS : STV w s v1 v2 v3 v4 v5) :
    Calls Try.prog 100 #[.agg #[v1, v2, v3, v4, v5, .int .i64 s.lock]] w fun e w' => e = .returned (.bool (plainB s)) ∧ Below w.heap.size w w' := by
 obtain ⟨a1, c1, rfl, S1, _⟩ := id hS.pc
 obtain ⟨a2, c2, rfl, S2, _⟩ := id hS.ph
 obtain ⟨a5, c5, rfl⟩ := hS.bf.form
 have HN : Hid (s.pc.length = n ∧ s.ph.length = n ∧ s.buf.length = n) := ⟨hn, hph, hbf⟩
 have HFB : Hid (s.buf.flatten.length ≤ 1048576) := hf.bb
 have hn20 : n ≤ 1048576 := by rw [← hn]; exact hf.pc
 have hnI : (n : Int) ≤ 1048576 := by omega
 have H2 : Hid (Seg w a2 (s.ph.flatMap intE)) := S2
 have H5 : Hid (RowsV w (.slice a5 n c5) wrE s.buf) := by have := hS.bf; rw [hbf] at this; exact this
 simp only [hn, hph, hbf]
 obtain ⟨lk, hlk⟩ : ∃ k, s.lock = k := ⟨_, rfl⟩
 have HLK : Hid (s.lock = lk) := hlk
 simp only [hlk]
 clear hS S1 S2 hf hn hph hbf hlk
 have t1 : True := trivial
 go_enter Try.func100, Try.ntmps100
 go_wp2_with (first
  | (clear t1; refine wpList_boxS rfl 32 _ rfl [.slice a1 n c1, .slice a2 n c2, v3, v4, .slice a5 n c5, .int .i64 lk] rfl ?_; intro W0 b1 F0 C0; have B0 := F_b F0; obtain ⟨x0, x1, x2, x3, x4, x5⟩ := st6 C0; clear F0))
 have HC : Hid (IsS W0 b1 32 [.slice a1 n c1, .slice a2 n c2, v3, v4, .slice a5 n c5, .int .i64 lk]) := C0
 have HB0 : Hid (Below w.heap.size w W0) := B0
 clear x0 x1 x2 x3 x4 x5 C0 B0
 go_loopw [7] (fun i wr => ∃ j : Nat, j ≤ n ∧ i = .int .i64 (j : Int) ∧ Hid (∀ k, k < j → idleB s k = true) ∧ Hid (Below W0.heap.size W0 wr)) (fun i _ => n - (intOf i).toNat)
 case atStart => exact ⟨0, Nat.zero_le _, rfl, fun k hk => absurd hk (by omega), Below.refl _ _⟩
 case round =>
  obtain ⟨j, hj, rfl, HI, HB⟩ := hrel
  have C := HC.out.grown HB.out
  have B := Below.then HB0.out HB.out
  obtain ⟨x0, x1, x2, x3, x4, x5⟩ := st6 C
  by_cases hlt : j < n
  · have hji : (j : Int) < n := by omega
    obtain ⟨x, hx⟩ : ∃ x, s.ph[j]? = some x := ⟨_, List.getElem?_eq_getElem (by rw [HN.out.2.1]; exact hlt)⟩
    obtain ⟨bw, hbw⟩ : ∃ x, s.buf[j]? = some x := ⟨_, List.getElem?_eq_getElem (by rw [HN.out.2.2]; exact hlt)⟩
    obtain ⟨g2, o2, e2, hg2, hc2⟩ := (H2.out.below B) j _ (int_get hx)
    obtain ⟨g5, o5, a', c', e5, hg5, hc5, _, _⟩ := (H5.out.below B).at j bw hbw
    subst e2 e5
    obtain ⟨lb, hlb⟩ : ∃ k, bw.length = k := ⟨_, rfl⟩
    rw [hlb] at hc5
    have hlb20 : lb ≤ 1048576 := by rw [← hlb]; exact flat_row HFB.out hbw
    have hlbI : (lb : Int) ≤ 1048576 := by omega
    have HID : Hid (idleB s j = (decide (x = 0) && decide (lb = 0))) := by
     show idleB s j = _
     rw [idle_of hx hbw, ← hlb]
     cases bw <;> simp
    clear hx hbw hlb
    by_cases hx0 : x = 0
    · subst hx0
      by_cases hl0 : lb = 0
      · subst hl0
        go_wp2_with fail
        clear x0 x1 x2 x3 x4 x5 hc2 hc5
        go_roundw
        case rel => exact ⟨j + 1, by omega, by go_num, fun k hk => (by by_cases e : k < j; exact HI.out k e; (have ek : k = j := by omega); rw [ek, HID.out]; rfl), HB⟩
        case measure => simp [intOf]; omega
      · have hl0' : ((lb : Int) != 0) = true := by simp [hl0]
        have hl1 : 0 < (lb : Int) := by omega
        have HR : Hid (plainB s = false) := plain_no (by rw [HN.out.1]; exact hlt) (by rw [HID.out]; simp [hl0])
        go_wp2_with fail
        go_ret
        exact ⟨by rw [HR.out]; rfl, B⟩
    · have hx0' : (x != 0) = true := by simp [hx0]
      have HR : Hid (plainB s = false) := plain_no (by rw [HN.out.1]; exact hlt) (by rw [HID.out]; simp [hx0])
      go_wp2_with fail
      go_ret
      exact ⟨by rw [HR.out]; rfl, B⟩
  · have hji : ¬ (j : Int) < n := by omega
    have HR : Hid (plainB s = decide (lk = -1)) := by
     show plainB s = _
     rw [plain_end (fun i hi => HI.out i (by rw [HN.out.1] at hi; omega)), HLK.out]
    by_cases hl1 : lk = -1
    · subst hl1
      go_wp2_with fail
      go_ret
      exact ⟨by rw [HR.out]; rfl, B⟩
    · have hl2 : (lk == -1) = false := by simp [hl1]
      have hl3 : decide (lk = -1) = false := by simp [hl1]
      go_wp2_with fail
      go_ret
      exact ⟨by rw [HR.out, hl3]; rfl, B⟩
set_option maxRecDepth 100000 in
set_option maxHeartbeats 4000000 in
theorem rplainG_any (s : ST) (n : Nat) (hf : s.Few) (hn : s.pc.length = n) (hph : s.ph.length = n) (hbf : s.buf.length = n) (v1 v2 v3 v4 v5 : Value) (w : World) (hS : STV w s v1 v2 v3 v4 v5) :
    Calls Try.prog 101 #[.agg #[v1, v2, v3, v4, v5, .int .i64 s.lock]] w fun e w' => e = .returned (.bool (plainB s)) ∧ Below w.heap.size w w' := by
 obtain ⟨a1, c1, rfl, S1, _⟩ := id hS.pc
 obtain ⟨a2, c2, rfl, S2, _⟩ := id hS.ph
 obtain ⟨a5, c5, rfl⟩ := hS.bf.form
 have HN : Hid (s.pc.length = n ∧ s.ph.length = n ∧ s.buf.length = n) := ⟨hn, hph, hbf⟩
 have HFB : Hid (s.buf.flatten.length ≤ 1048576) := hf.bb
 have hn20 : n ≤ 1048576 := by rw [← hn]; exact hf.pc
 have hnI : (n : Int) ≤ 1048576 := by omega
 have H2 : Hid (Seg w a2 (s.ph.flatMap intE)) := S2
 have H5 : Hid (RowsV w (.slice a5 n c5) wrE s.buf) := by have := hS.bf; rw [hbf] at this; exact this
 simp only [hn, hph, hbf]
 obtain ⟨lk, hlk⟩ : ∃ k, s.lock = k := ⟨_, rfl⟩
 have HLK : Hid (s.lock = lk) := hlk
 simp only [hlk]
 clear hS S1 S2 hf hn hph hbf hlk
 have t1 : True := trivial
 by_cases hl1 : lk = -1
 · subst hl1
   go_enter Try.func101, Try.ntmps101
   go_wp2_with (first
    | (clear t1; refine wpList_boxS rfl 32 _ rfl [.slice a1 n c1, .slice a2 n c2, v3, v4, .slice a5 n c5, .int .i64 (-1)] rfl ?_; intro W0 b1 F0 C0; have B0 := F_b F0; obtain ⟨x0, x1, x2, x3, x4, x5⟩ := st6 C0; clear F0))
   have HC : Hid (IsS W0 b1 32 [.slice a1 n c1, .slice a2 n c2, v3, v4, .slice a5 n c5, .int .i64 (-1)]) := C0
   have HB0 : Hid (Below w.heap.size w W0) := B0
   clear x0 x1 x2 x3 x4 x5 C0 B0
   go_loopw [3] (fun i wr => ∃ j : Nat, j ≤ n ∧ i = .int .i64 (j : Int) ∧ Hid (∀ k, k < j → idleB s k = true) ∧ Hid (Below W0.heap.size W0 wr)) (fun i _ => n - (intOf i).toNat)
   case atStart => exact ⟨0, Nat.zero_le _, rfl, fun k hk => absurd hk (by omega), Below.refl _ _⟩
   case round =>
    obtain ⟨j, hj, rfl, HI, HB⟩ := hrel
    have C := HC.out.grown HB.out
    have B := Below.then HB0.out HB.out
    obtain ⟨x0, x1, x2, x3, x4, x5⟩ := st6 C
    by_cases hlt : j < n
    · have hji : (j : Int) < n := by omega
      obtain ⟨x, hx⟩ : ∃ x, s.ph[j]? = some x := ⟨_, List.getElem?_eq_getElem (by rw [HN.out.2.1]; exact hlt)⟩
      obtain ⟨bw, hbw⟩ : ∃ x, s.buf[j]? = some x := ⟨_, List.getElem?_eq_getElem (by rw [HN.out.2.2]; exact hlt)⟩
      obtain ⟨g2, o2, e2, hg2, hc2⟩ := (H2.out.below B) j _ (int_get hx)
      obtain ⟨g5, o5, a', c', e5, hg5, hc5, _, _⟩ := (H5.out.below B).at j bw hbw
      subst e2 e5
      obtain ⟨lb, hlb⟩ : ∃ k, bw.length = k := ⟨_, rfl⟩
      rw [hlb] at hc5
      have hlb20 : lb ≤ 1048576 := by rw [← hlb]; exact flat_row HFB.out hbw
      have hlbI : (lb : Int) ≤ 1048576 := by omega
      have HID : Hid (idleB s j = (decide (x = 0) && decide (lb = 0))) := by
       show idleB s j = _
       rw [idle_of hx hbw, ← hlb]
       cases bw <;> simp
      clear hx hbw hlb
      by_cases hx0 : x = 0
      · subst hx0
        by_cases hl0 : lb = 0
        · subst hl0
          go_wp2_with fail
          clear x0 x1 x2 x3 x4 x5 hc2 hc5
          go_roundw
          case rel => exact ⟨j + 1, by omega, by go_num, fun k hk => (by by_cases e : k < j; exact HI.out k e; (have ek : k = j := by omega); rw [ek, HID.out]; rfl), HB⟩
          case measure => simp [intOf]; omega
        · have hl0' : ((lb : Int) != 0) = true := by simp [hl0]
          have hl1 : 0 < (lb : Int) := by omega
          have HR : Hid (plainB s = false) := plain_no (by rw [HN.out.1]; exact hlt) (by rw [HID.out]; simp [hl0])
          go_wp2_with fail
          go_ret
          exact ⟨by rw [HR.out]; rfl, B⟩
      · have hx0' : (x != 0) = true := by simp [hx0]
        have HR : Hid (plainB s = false) := plain_no (by rw [HN.out.1]; exact hlt) (by rw [HID.out]; simp [hx0])
        go_wp2_with fail
        go_ret
        exact ⟨by rw [HR.out]; rfl, B⟩
    · have hji : ¬ (j : Int) < n := by omega
      have HR : Hid (plainB s = true) := by
       show plainB s = _
       rw [plain_end (fun i hi => HI.out i (by rw [HN.out.1] at hi; omega)), HLK.out]; rfl
      go_wp2_with fail
      go_ret
      exact ⟨by rw [HR.out]; rfl, B⟩
 · have hl2 : (lk != -1) = true := by simp [hl1]
   have HR : Hid (plainB s = false) := plain_lock (by rw [HLK.out]; exact hl1)
   go_enter Try.func101, Try.ntmps101
   go_wp2_with (first
    | (clear t1; refine wpList_boxS rfl 32 _ rfl [.slice a1 n c1, .slice a2 n c2, v3, v4, .slice a5 n c5, .int .i64 lk] rfl ?_; intro W0 b1 F0 C0; have B0 := F_b F0; obtain ⟨x0, x1, x2, x3, x4, x5⟩ := st6 C0; clear F0))
   go_ret
   exact ⟨by rw [HR.out]; rfl, B0⟩
end Go.Proofs.Ytegpnicajlndlaa

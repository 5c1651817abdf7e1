/- One code: a final state's code is taken back as it; what is taken is the code of what comes; none begins another one. -/
import Derived.Test.YtbhgchhoeokjhabDoorDC
namespace Go.Proofs.YtbhgchhoeokjhabDoor
open Go.RowKit M
set_option linter.unusedSimpArgs false
set_option linter.unusedVariables false

def I64 (v : Int) : Prop := -9223372036854775808 ≤ v ∧ v ≤ 9223372036854775807
theorem takeA_at {l r : List UInt8} {v : Int} (h : I64 v) : takeA ⟨(l ++ (M.putL v ++ r)).toArray⟩ (l.length : Int) = some (v, (M.putL v).length) := by
  unfold takeA
  have hp := (M.putL_len h.1 h.2).1
  rw [if_neg (by simp [ByteArray.size]; omega)]
  show M.takeO (((l ++ (M.putL v ++ r))).drop ((l.length : Int)).toNat) = _
  rw [Int.toNat_natCast, List.drop_left]
  exact M.takeO_put h.1 h.2 r
theorem many_put : ∀ (vs : List Int) (l r : List UInt8), (∀ v ∈ vs, I64 v) → manyA ⟨(l ++ (vs.flatMap M.putL ++ r)).toArray⟩ vs.length l.length = some (vs, l.length + (vs.flatMap M.putL).length)
  | [], l, r, _ => by simp [manyA]
  | v :: vs, l, r, h => by
    have h1 := takeA_at (l := l) (r := vs.flatMap M.putL ++ r) (h v (by simp))
    have h2 := many_put vs (l ++ M.putL v) r fun u hu => h u (by simp [hu])
    rw [List.flatMap_cons, List.append_assoc, List.length_cons]
    unfold manyA
    rw [h1]
    simp only
    rw [List.append_assoc, List.length_append] at h2
    rw [h2]
    simp only [List.length_append, Nat.add_assoc]
theorem takeA_cut {s : ByteArray} {p : Nat} {v : Int} {n : Nat} (h : takeA s (p : Int) = some (v, n)) : I64 v ∧ s.data.toList.drop p = M.putL v ++ s.data.toList.drop (p + n) := by
  unfold takeA at h
  by_cases hc : (p : Int) < 0 ∨ (s.size : Int) ≤ p
  · rw [if_pos hc] at h; cases h
  · rw [if_neg hc] at h
    obtain ⟨hv, hn, r, hr⟩ := M.put_takeO h
    rw [Int.toNat_natCast] at hr
    refine ⟨hv, ?_⟩
    rw [← List.drop_drop, hr, hn, List.drop_left]
theorem many_cut {s : ByteArray} : ∀ (k p : Nat) {vs : List Int} {e : Nat}, manyA s k p = some (vs, e) → vs.length = k ∧ (∀ v ∈ vs, I64 v) ∧ s.data.toList.drop p = vs.flatMap M.putL ++ s.data.toList.drop e
  | 0, p, vs, e, h => by
    simp only [manyA, Option.some.injEq, Prod.mk.injEq] at h
    obtain ⟨rfl, rfl⟩ := h
    simp
  | k + 1, p, vs, e, h => by
    unfold manyA at h
    cases ht : takeA s (p : Int) with
    | none => rw [ht] at h; cases h
    | some t =>
      obtain ⟨v, n⟩ := t
      rw [ht] at h
      simp only at h
      cases hm : manyA s k (p + n) with
      | none => rw [hm] at h; cases h
      | some u =>
        obtain ⟨us, e'⟩ := u
        rw [hm] at h
        simp only [Option.some.injEq, Prod.mk.injEq] at h
        obtain ⟨rfl, rfl⟩ := h
        obtain ⟨a1, a2⟩ := takeA_cut ht
        obtain ⟨b1, b2, b3⟩ := many_cut k (p + n) hm
        refine ⟨by simp [b1], fun u hu => ?_, ?_⟩
        · rcases List.mem_cons.1 hu with rfl | hu
          · exact a1
          · exact b2 u hu
        · rw [a2, b3, List.flatMap_cons, List.append_assoc]
theorem codeF_ok {x : FS} (h : okF x = true) : codeF x = M.putL x.n ++ (x.v.take x.n.toNat).flatMap M.putL := by
  obtain ⟨N, hN, hN'⟩ := okF_n h
  unfold codeF codeK
  rw [if_pos h, hN]; rfl
theorem codeF_no {x : FS} (h : okF x = false) : codeF x = [] := by unfold codeF; rw [h]; rfl
theorem mkF_take {x : FS} (h : okF x = true) : mkF x.n (x.v.take x.n.toNat) = x := by
  obtain ⟨N, hN, hN'⟩ := okF_n h
  unfold okF at h
  simp only [Bool.and_eq_true, decide_eq_true_eq] at h
  have hz := h.2
  rw [hN, Int.toNat_natCast] at hz
  refine FS.eq rfl ?_
  rw [hN, Int.toNat_natCast]
  refine List.ext_getElem? fun j => ?_
  by_cases hj : j < 48
  · have e1 := mkF_getD (N : Int) (x.v.take N) j hj
    have l1 : j < (mkF (N : Int) (x.v.take N)).v.length := by rw [(mkF _ _).h]; exact hj
    have l2 : j < x.v.length := by rw [x.h]; exact hj
    rw [List.getD_eq_getElem?_getD, List.getElem?_eq_getElem l1] at e1
    rw [List.getElem?_eq_getElem l1, List.getElem?_eq_getElem l2]
    simp only [Option.getD_some] at e1
    rw [e1, List.getD_eq_getElem?_getD, List.getElem?_take]
    by_cases hk : j < N
    · rw [if_pos hk, List.getElem?_eq_getElem l2]; rfl
    · rw [if_neg hk]
      rw [List.all_eq_true] at hz
      have := hz x.v[j] (by rw [List.mem_drop_iff_getElem]; exact ⟨j - N, by omega, by congr 1; omega⟩)
      simp at this
      simp [this]
  · rw [List.getElem?_eq_none (by rw [(mkF _ _).h]; omega), List.getElem?_eq_none (by rw [x.h]; omega)]
theorem take_i64 {x : FS} (h : Wf x) (k : Nat) : ∀ v ∈ x.v.take k, I64 v := fun v hv => h v (List.mem_of_mem_take hv)
/-- A code with more behind it: what is taken first. -/
theorem code_reads {x : FS} (hx : Wf x) (h : okF x = true) (r : List UInt8) :
    takeA ⟨(codeF x ++ r).toArray⟩ 0 = some (x.n, (M.putL x.n).length) ∧ manyA ⟨(codeF x ++ r).toArray⟩ x.n.toNat (M.putL x.n).length = some (x.v.take x.n.toNat, (codeF x).length) := by
  obtain ⟨N, hN, hN'⟩ := okF_n h
  rw [codeF_ok h]
  have hi : I64 x.n := by unfold I64; omega
  constructor
  · have := takeA_at (l := []) (r := (x.v.take x.n.toNat).flatMap M.putL ++ r) hi
    rw [List.append_assoc]
    simpa using this
  · have := many_put (x.v.take x.n.toNat) (M.putL x.n) r (take_i64 hx _)
    rw [List.length_take, x.h, Nat.min_eq_left (by omega)] at this
    rw [List.append_assoc, List.length_append]
    exact this
theorem decO_code {x : FS} (hx : Wf x) (h : okF x = true) : decO ⟨(codeF x).toArray⟩ = some x := by
  obtain ⟨N, hN, hN'⟩ := okF_n h
  obtain ⟨h1, h2⟩ := code_reads hx h []
  rw [List.append_nil] at h1 h2
  unfold decO
  rw [h1]
  simp only
  rw [if_pos (by omega), h2]
  simp only
  rw [if_pos (by simp [ByteArray.size]), mkF_take h]
theorem code_begins {x y : FS} (hx : Wf x) (hy : Wf y) (h : okF x = true) (h' : okF y = true) {r : List UInt8} (e : codeF y = codeF x ++ r) : x = y := by
  obtain ⟨a1, a2⟩ := code_reads hx h r
  obtain ⟨b1, b2⟩ := code_reads hy h' []
  rw [List.append_nil, e] at b1 b2
  rw [a1] at b1
  simp only [Option.some.injEq, Prod.mk.injEq] at b1
  rw [← b1.1, a2] at b2
  simp only [Option.some.injEq, Prod.mk.injEq] at b2
  rw [← mkF_take h, ← mkF_take h', ← b1.1, b2.1]
theorem decO_some {s : ByteArray} {x : FS} (h : decO s = some x) : Wf x ∧ okF x = true ∧ codeF x = s.data.toList := by
  unfold decO at h
  cases ht : takeA s 0 with
  | none => rw [ht] at h; cases h
  | some t =>
    obtain ⟨n, k⟩ := t
    rw [ht] at h
    simp only at h
    by_cases hn : 0 ≤ n ∧ n ≤ 48
    · rw [if_pos hn] at h
      cases hm : manyA s n.toNat k with
      | none => rw [hm] at h; cases h
      | some u =>
        obtain ⟨vs, e⟩ := u
        rw [hm] at h
        simp only at h
        by_cases he : e = s.size
        · rw [if_pos he] at h
          obtain rfl := Option.some.inj h
          obtain ⟨a1, a2⟩ := takeA_cut (p := 0) ht
          obtain ⟨b1, b2, b3⟩ := many_cut _ _ hm
          rw [List.drop_zero, Nat.zero_add] at a2
          have hd : s.data.toList.drop e = [] := List.drop_eq_nil_of_le (by have hs : s.data.toList.length = s.size := (by simp); rw [he, hs]; exact Nat.le_refl _)
          rw [b3, hd, List.append_nil] at a2
          have hv : (mkF n vs).v = vs ++ List.replicate (48 - vs.length) 0 := by
            unfold mkF
            simp only
            rw [List.take_append, List.take_of_length_le (by omega), List.take_replicate, Nat.min_eq_left (by omega)]
          have hok : okF (mkF n vs) = true := by
            unfold okF
            rw [hv]
            show (decide (0 ≤ n ∧ n ≤ 48) && _) = true
            rw [Bool.and_eq_true]
            refine ⟨by simpa using hn, ?_⟩
            show ((vs ++ List.replicate (48 - vs.length) 0).drop n.toNat).all _ = true
            rw [← b1, List.drop_left]
            simp
          refine ⟨?_, hok, ?_⟩
          · intro v hv'
            rw [hv] at hv'
            rcases List.mem_append.1 hv' with q | q
            · exact b2 v q
            · rw [(List.mem_replicate.1 q).2]; omega
          · rw [codeF_ok hok, hv]
            show M.putL n ++ ((vs ++ _).take n.toNat).flatMap M.putL = _
            rw [← b1, List.take_left, ← a2]
        · rw [if_neg he] at h; cases h
    · rw [if_neg hn] at h; cases h
/-- Of two codes the first one begins the second one, just if the states are the same. -/
theorem begins_iff {x y : FS} (hx : Wf x) (hy : Wf y) (h : okF x = true) (h' : okF y = true) (hl : (codeF x).length ≤ (codeF y).length) : decide ((codeF y).take (codeF x).length = codeF x) = decide (x = y) := by
  rw [decide_eq_decide]
  constructor
  · intro e
    refine code_begins hx hy h h' (r := (codeF y).drop (codeF x).length) ?_
    conv => lhs; rw [← List.take_append_drop (codeF x).length (codeF y), e]
  · rintro rfl; simp
theorem begins_no {x y : FS} (hl : ¬ (codeF x).length ≤ (codeF y).length) : decide (x = y) = false := by
  rw [decide_eq_false_iff_not]; rintro rfl; exact hl (Nat.le_refl _)
end Go.Proofs.YtbhgchhoeokjhabDoor

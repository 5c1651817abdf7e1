/- CS5 -/
import Derived.Test.YtegpnicajlndlaaQaz
namespace Go.Proofs.Ytegpnicajlndlaa
open Go.RowKit M
set_option linter.unusedSimpArgs false
set_option linter.unusedVariables false
def cod (vs : List Int) : List UInt8 := vs.flatMap M.putL
theorem cod_snoc (vs : List Int) (v : Int) : cod (vs ++ [v]) = cod vs ++ M.putL v := by simp [cod]
theorem cod_len {vs : List Int} (h : ∀ v ∈ vs, I64 v) : (cod vs).length ≤ 10 * vs.length := by
 induction vs with
 | nil => simp [cod]
 | cons v vs ih =>
  have h1 := (M.putL_len (h v (by simp)).1 (h v (by simp)).2).2
  have h2 := ih fun u hu => h u (by simp [hu])
  unfold cod at h2 ⊢
  rw [List.flatMap_cons, List.length_append, List.length_cons]
  omega
def Pre (s : ST) (vs : List Int) : Prop := ∃ r, valsS s = vs ++ r
theorem Pre.left {s : ST} {a b : List Int} (h : Pre s (a ++ b)) : Pre s a := by obtain ⟨r, h⟩ := h; exact ⟨b ++ r, by rw [h, List.append_assoc]⟩
theorem thsV_pre (s : ST) : ∀ (n i : Nat), i ≤ n → ∃ r, thsV s n = thsV s i ++ r
 | 0, i, h => ⟨[], by rw [show i = 0 by omega]; simp⟩
 | n + 1, i, h => by
  by_cases hi : i = n + 1
  · exact ⟨[], by rw [hi]; simp⟩
  · obtain ⟨r, hr⟩ := thsV_pre s n i (by omega)
    exact ⟨r ++ thV s n, by rw [thsV_succ, hr, List.append_assoc]⟩
theorem pre_ths (s : ST) {i : Nat} (h : i ≤ s.pc.length) : Pre s (thsV s i) := by
 obtain ⟨r, hr⟩ := thsV_pre s s.pc.length i h
 exact ⟨r ++ (s.mem ++ (s.buf.flatMap bfV ++ [s.lock])), by unfold valsS; rw [hr, List.append_assoc]⟩
theorem pre_mem (s : ST) (k : Nat) : Pre s (thsV s s.pc.length ++ s.mem.take k) :=
 ⟨s.mem.drop k ++ (s.buf.flatMap bfV ++ [s.lock]), by unfold valsS; rw [List.append_assoc, ← List.append_assoc (s.mem.take k), List.take_append_drop]⟩
theorem pre_buf (s : ST) (k : Nat) : Pre s (thsV s s.pc.length ++ s.mem ++ (s.buf.take k).flatMap bfV) :=
 ⟨(s.buf.drop k).flatMap bfV ++ [s.lock], by
  unfold valsS
  rw [List.append_assoc, List.append_assoc, ← List.append_assoc ((s.buf.take k).flatMap bfV), ← List.flatMap_append, List.take_append_drop]⟩
theorem pre_all (s : ST) : Pre s (thsV s s.pc.length ++ s.mem ++ s.buf.flatMap bfV ++ [s.lock]) := ⟨[], by unfold valsS; simp⟩
theorem thsV_len (s : ST) (h : s.regs.flatten.length ≤ 1048576) (k : Nat) : ∀ i, (thsV s i).length ≤ 2 * i + ((s.regs.take i).flatten.length)
 | 0 => by simp [thsV]
 | i + 1 => by
  have ih := thsV_len s h k i
  rw [thsV_succ, List.length_append]
  unfold thV
  simp only [List.length_cons]
  cases hx : s.regs[i]? with
  | none =>
   rw [List.getD_eq_getElem?_getD, hx]
   have e : s.regs.take (i + 1) = s.regs.take i := by rw [List.take_add_one, hx]; simp
   rw [e]
   simp only [Option.getD_none, List.length_nil]
   omega
  | some x =>
   rw [List.getD_eq_getElem?_getD, hx, takeS_snoc hx, List.flatten_append, List.length_append]
   simp only [Option.getD_some, List.flatten_cons, List.flatten_nil, List.append_nil]
   omega
theorem bfV_len : ∀ l : List (List (Int × Int)), (l.flatMap bfV).length = l.length + 2 * l.flatten.length
 | [] => rfl
 | b :: l => by
  have hb : (bfV b).length = 1 + 2 * b.length := by
   unfold bfV wrV
   rw [List.length_cons]
   have : (b.flatMap fun w => [w.1, w.2]).length = 2 * b.length := by
    induction b with
    | nil => rfl
    | cons x b ih => rw [List.flatMap_cons, List.length_append, ih, List.length_cons]; simp; omega
   omega
  rw [List.flatMap_cons, List.length_append, bfV_len l, hb, List.length_cons, List.flatten_cons, List.length_append]
  omega
theorem vals_len {s : ST} (h : s.Few) : (valsS s).length ≤ 16777216 := by
 have h1 := thsV_len s h.rr 0 s.pc.length
 have h2 : (s.regs.take s.pc.length).flatten.length ≤ s.regs.flatten.length := by
  conv => rhs; rw [← List.take_append_drop s.pc.length s.regs, List.flatten_append, List.length_append]
  omega
 have h3 := h.rr
 have h4 := h.pc
 have h5 := h.mm
 have h6 := h.bf
 have h7 := h.bb
 unfold valsS
 rw [List.length_append, List.length_append, List.length_append, bfV_len, List.length_singleton]
 omega
theorem wid_vals {s : ST} (hl : s.pc.length = s.ph.length ∧ s.pc.length = s.regs.length) (h : Wid s) : ∀ v ∈ valsS s, I64 v := fun v hv => by
 unfold valsS at hv
 simp only [List.mem_append, List.mem_singleton] at hv
 rcases hv with hv | hv | hv | hv
 · unfold thsV at hv
   obtain ⟨i, hi, hm⟩ := List.mem_flatMap.1 hv
   have hi := List.mem_range.1 hi
   unfold thV at hm
   obtain ⟨a, ha⟩ : ∃ x, s.pc[i]? = some x := ⟨_, List.getElem?_eq_getElem hi⟩
   obtain ⟨b, hb⟩ : ∃ x, s.ph[i]? = some x := ⟨_, List.getElem?_eq_getElem (by omega)⟩
   obtain ⟨c, hc⟩ : ∃ x, s.regs[i]? = some x := ⟨_, List.getElem?_eq_getElem (by omega)⟩
   rw [getDS_of ha, getDS_of hb, getDS_of hc] at hm
   simp only [List.mem_cons] at hm
   rcases hm with rfl | rfl | hm
   · exact h.pc _ (List.mem_of_getElem? ha)
   · exact h.ph _ (List.mem_of_getElem? hb)
   · exact h.rg _ (List.mem_of_getElem? hc) v hm
 · exact h.mm v hv
 · obtain ⟨b, hb, hm⟩ := List.mem_flatMap.1 hv
   have hw := h.bf b hb
   unfold bfV wrV at hm
   simp only [List.mem_cons, List.mem_flatMap] at hm
   rcases hm with rfl | ⟨x, hx, hm⟩
   · exact ⟨by omega, by have := hw.1; omega⟩
   · simp only [List.not_mem_nil, or_false] at hm
     rcases hm with rfl | rfl
     · exact (hw.2 x hx).1
     · exact (hw.2 x hx).2
 · rw [hv]; exact h.lk
theorem pre_put {s : ST} (hf : s.Few) (hl : s.pc.length = s.ph.length ∧ s.pc.length = s.regs.length) (hw : Wid s) {vs : List Int} {v : Int} (h : Pre s (vs ++ [v])) : I64 v ∧ (cod vs).length ≤ 1099511627776 := by
 have hv := wid_vals hl hw
 have hn := vals_len hf
 obtain ⟨r, h⟩ := h
 rw [h] at hv hn
 refine ⟨hv v (by simp), ?_⟩
 have := cod_len (vs := vs) fun u hu => hv u (by simp [hu])
 rw [List.length_append, List.length_append] at hn
 omega
end Go.Proofs.Ytegpnicajlndlaa

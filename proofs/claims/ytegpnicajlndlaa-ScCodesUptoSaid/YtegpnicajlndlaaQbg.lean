/- Several texts in one: CS4, CS5. -/
import Derived.Test.YtegpnicajlndlaaQbe
import Derived.Test.YtegpnicajlndlaaQbf
import Derived.Test.YtegpnicajlndlaaQas
import Derived.Lib.AppendStr
/- textOf's closure: a value's code put behind what is there. -/
namespace Go.Proofs.Ytegpnicajlndlaa
open Go.RowKit M
set_option linter.unusedSimpArgs false
set_option linter.unusedVariables false

/-- A variable that holds a row of bytes of one's own. -/
def Tx (W : World) (B b : Nat) (l : List UInt8) : Prop := ∃ v, IsS W b 149 [v] ∧ W.ownsRow B 5 1 v l.length (Lib.byteCells l) ∧ B ≤ b ∧ v.ownBlock ≠ some b
/-- What a call that writes such a variable leaves. -/
structure TxF (B : Nat) (W W' : World) : Prop where
  below : Below B W W'
  keep : ∀ k t cs, IsS W k t cs → t ≠ 149 → t ≠ 5 → IsS W' k t cs
theorem TxF.refl (B : Nat) (W : World) : TxF B W W := ⟨Below.refl _ _, fun _ _ _ h _ _ => h⟩
theorem TxF.trans {B : Nat} {W W' W'' : World} (h : TxF B W W') (h' : TxF B W' W'') : TxF B W W'' := ⟨h.below.trans h'.below, fun k t cs hc h1 h2 => h'.keep k t cs (h.keep k t cs hc h1 h2) h1 h2⟩
theorem isS_own_ne {W : World} {B t s n b t' : Nat} {v : Value} {xs cs : List Value} (h : W.ownsRow B t s v n xs) (hc : IsS W b t' cs) (ht : t ≠ t') : v.ownBlock ≠ some b := by
  rcases h.2 with ⟨rfl, _⟩ | ⟨g, cap, cur, rfl, _, hh, _⟩
  · intro e; cases e
  · intro e
    cases e
    rw [show W.heap[g]? = _ from hc] at hh
    cases hh
    exact ht rfl
theorem isS_ty {W : World} {b t t' : Nat} {cs cs' : List Value} (h : IsS W b t cs) (h' : IsS W b t' cs') : t = t' := by
  unfold IsS at h h'
  rw [h] at h'
  cases h'
  rfl
theorem info149 : (Try.prog.info? 149).map (·.size) = some 1 := by kernel_rfl
set_option maxRecDepth 100000 in
set_option maxHeartbeats 4000000 in
theorem putc_any (v : Int) (hv : I64 v) (B b : Nat) (l : List UInt8) (hl : l.length ≤ 1099511627776) (w : World) (hB : B ≤ w.heap.size) (hT : Tx w B b l) :
    Calls Try.prog 91 #[.int .i64 v, .pointer (some ⟨b, 0, none⟩)] w fun e w' => e = .returned (.tuple #[]) ∧ Tx w' B b (l ++ M.putL v) ∧ TxF B w w' := by
  obtain ⟨vv, hI, hO, hBb, _⟩ := hT
  obtain ⟨i0, hi, hz0, hz1, hz2⟩ := info_parts info5
  have hp10 := (M.putL_len hv.1 hv.2).2
  have hput := fun W => put_any v hv.1 hv.2 W
  obtain ⟨L, hL⟩ : ∃ L, M.putL v = L := ⟨_, rfl⟩
  rw [hL] at hp10 ⊢
  simp only [hL] at hput
  have hsz : (⟨L.toArray⟩ : ByteArray).size = L.length := rfl
  obtain ⟨S, hS⟩ : ∃ S : ByteArray, S = ⟨L.toArray⟩ := ⟨_, rfl⟩
  have HS : Hid (S = ⟨L.toArray⟩) := hS
  rw [← hS] at hsz
  simp only [← hS] at hput
  have HZ : Hid (S.size = L.length) := hsz
  have h10 : S.size ≤ 10 := by omega
  clear hL hS hv hsz
  have ta : True := trivial
  have tb : True := trivial
  go_enter Try.func91, Try.ntmps91
  refine grow_tailV 3 (by kernel_rfl) (by kernel_rfl) ?_
  simp only [List.take_succ_cons, List.take_zero]
  refine WG.load1 rfl 149 _ rfl rfl hI (v := vv) rfl (fun w h => by simp [go_sem, h]) ?_
  simp only [Act.put, List.setIfInBounds_toArray, List.set_cons_succ, List.set_cons_zero]
  refine WG.put rfl (v := .int .i64 v) (fun w => by first | rfl | (go_simp; done) | (simp [go_sem]; done)) ?_
  simp only [Act.put, List.setIfInBounds_toArray, List.set_cons_succ, List.set_cons_zero]
  refine WG.call rfl (f := 92) (v := .string S) (fun W _ => hput W) (fun w => by first | rfl | (go_simp; done) | (simp [execOp, go_sem]; done)) ?_
  simp only [Act.put, List.setIfInBounds_toArray, List.set_cons_succ, List.set_cons_zero]
  refine WG.nil ?_
  intro W1 B1
  simp only [List.drop_succ_cons, List.drop_zero]
  have I1 := hI.grown B1
  have O1 := own_belowY hO B1
  have hB1 : B ≤ W1.heap.size := Nat.le_trans hB B1.size
  refine Lib.wpList_append_own_string _ rfl _ _ 149 9 rfl B 5 i0 Try.underlying149 Try.underlying9 hi hz0 hz1 hz2 vv l.length (Lib.byteCells l) rfl O1 S rfl (by unfold maxLen; omega) (by omega) hB1 ?_
  intro v2 W2 O2 G2 _
  have I2 := isS_grow I1 O1 G2 (by decide)
  go_wp2_with (first
    | (clear tb; refine wpList_store1 rfl 149 _ _ rfl rfl v2 rfl I2 (by simp) info149 (one_own O2) ?_; intro W3 U3 I3x; have I3 : IsS W3 b 149 [v2] := I3x))
  go_end0
  have F12 : ∀ k t cs, IsS w k t cs → t ≠ 149 → t ≠ 5 → IsS W2 k t cs := fun k t cs hc _ h5 => isS_grow (hc.grown B1) O1 G2 h5
  have O2' : W2.ownsRow B 5 1 v2 (l ++ L).length (Lib.byteCells (l ++ L)) := by
    rw [Lib.byteCells_append, List.length_append, ← HZ.out]
    have := O2
    rw [HS.out] at this ⊢
    exact this
  refine ⟨rfl, ⟨v2, I3, own_upd O2' I2 U3 (by decide), hBb, isS_own_ne (own_upd O2' I2 U3 (by decide)) I3 (by decide)⟩, ?_, fun k t cs hc h1 h5 => (F12 k t cs hc h1 h5).upd U3 (fun e => ?_)⟩
  · have h2 : Below B w W2 := grown_below (B1.mono hB) hB1 O1 G2
    exact U3.trans h2 hBb
  · subst e
    exact h1 (isS_ty (F12 k t cs hc h1 h5) I2)
end Go.Proofs.Ytegpnicajlndlaa
/- textOf: a state's text. -/
namespace Go.Proofs.Ytegpnicajlndlaa
open Go.RowKit M
set_option linter.unusedSimpArgs false
set_option linter.unusedVariables false

def cod (vs : List Int) : List UInt8 := vs.flatMap M.putL
theorem cod_snoc (vs : List Int) (v : Int) : cod (vs ++ [v]) = cod vs ++ M.putL v := by simp [cod]
theorem cod_len {vs : List Int} (h : ∀ v ∈ vs, I64 v) : (cod vs).length ≤ 10 * vs.length := by
  induction vs with
  | nil => simp [cod]
  | cons v vs ih =>
    have h1 := (M.putL_len (h v (by simp)).1 (h v (by simp)).2).2
    have h2 := ih fun u hu => h u (by simp [hu])
    unfold cod at h2 ⊢
    rw [List.flatMap_cons, List.length_append, List.length_cons]
    omega
/-- These values stand at the head of a state's. -/
def Pre (s : ST) (vs : List Int) : Prop := ∃ r, valsS s = vs ++ r
theorem Pre.left {s : ST} {a b : List Int} (h : Pre s (a ++ b)) : Pre s a := by obtain ⟨r, h⟩ := h; exact ⟨b ++ r, by rw [h, List.append_assoc]⟩
theorem thsV_pre (s : ST) : ∀ (n i : Nat), i ≤ n → ∃ r, thsV s n = thsV s i ++ r
  | 0, i, h => ⟨[], by rw [show i = 0 by omega]; simp⟩
  | n + 1, i, h => by
    by_cases hi : i = n + 1
    · exact ⟨[], by rw [hi]; simp⟩
    · obtain ⟨r, hr⟩ := thsV_pre s n i (by omega)
      exact ⟨r ++ thV s n, by rw [thsV_succ, hr, List.append_assoc]⟩
theorem pre_ths (s : ST) {i : Nat} (h : i ≤ s.pc.length) : Pre s (thsV s i) := by
  obtain ⟨r, hr⟩ := thsV_pre s s.pc.length i h
  exact ⟨r ++ (s.mem ++ (s.buf.flatMap bfV ++ [s.lock])), by unfold valsS; rw [hr, List.append_assoc]⟩
theorem pre_mem (s : ST) (k : Nat) : Pre s (thsV s s.pc.length ++ s.mem.take k) :=
  ⟨s.mem.drop k ++ (s.buf.flatMap bfV ++ [s.lock]), by unfold valsS; rw [List.append_assoc, ← List.append_assoc (s.mem.take k), List.take_append_drop]⟩
theorem pre_buf (s : ST) (k : Nat) : Pre s (thsV s s.pc.length ++ s.mem ++ (s.buf.take k).flatMap bfV) :=
  ⟨(s.buf.drop k).flatMap bfV ++ [s.lock], by
    unfold valsS
    rw [List.append_assoc, List.append_assoc, ← List.append_assoc ((s.buf.take k).flatMap bfV), ← List.flatMap_append, List.take_append_drop]⟩
theorem pre_all (s : ST) : Pre s (thsV s s.pc.length ++ s.mem ++ s.buf.flatMap bfV ++ [s.lock]) := ⟨[], by unfold valsS; simp⟩
theorem thsV_len (s : ST) (h : s.regs.flatten.length ≤ 1048576) (k : Nat) : ∀ i, (thsV s i).length ≤ 2 * i + ((s.regs.take i).flatten.length)
  | 0 => by simp [thsV]
  | i + 1 => by
    have ih := thsV_len s h k i
    rw [thsV_succ, List.length_append]
    unfold thV
    simp only [List.length_cons]
    cases hx : s.regs[i]? with
    | none =>
      rw [List.getD_eq_getElem?_getD, hx]
      have e : s.regs.take (i + 1) = s.regs.take i := by rw [List.take_add_one, hx]; simp
      rw [e]
      simp only [Option.getD_none, List.length_nil]
      omega
    | some x =>
      rw [List.getD_eq_getElem?_getD, hx, takeS_snoc hx, List.flatten_append, List.length_append]
      simp only [Option.getD_some, List.flatten_cons, List.flatten_nil, List.append_nil]
      omega
theorem bfV_len : ∀ l : List (List (Int × Int)), (l.flatMap bfV).length = l.length + 2 * l.flatten.length
  | [] => rfl
  | b :: l => by
    have hb : (bfV b).length = 1 + 2 * b.length := by
      unfold bfV wrV
      rw [List.length_cons]
      have : (b.flatMap fun w => [w.1, w.2]).length = 2 * b.length := by
        induction b with
        | nil => rfl
        | cons x b ih => rw [List.flatMap_cons, List.length_append, ih, List.length_cons]; simp; omega
      omega
    rw [List.flatMap_cons, List.length_append, bfV_len l, hb, List.length_cons, List.flatten_cons, List.length_append]
    omega
theorem vals_len {s : ST} (h : s.Few) : (valsS s).length ≤ 16777216 := by
  have h1 := thsV_len s h.rr 0 s.pc.length
  have h2 : (s.regs.take s.pc.length).flatten.length ≤ s.regs.flatten.length := by
    conv => rhs; rw [← List.take_append_drop s.pc.length s.regs, List.flatten_append, List.length_append]
    omega
  have h3 := h.rr
  have h4 := h.pc
  have h5 := h.mm
  have h6 := h.bf
  have h7 := h.bb
  unfold valsS
  rw [List.length_append, List.length_append, List.length_append, bfV_len, List.length_singleton]
  omega
theorem wid_vals {s : ST} (hl : s.pc.length = s.ph.length ∧ s.pc.length = s.regs.length) (h : Wid s) : ∀ v ∈ valsS s, I64 v := fun v hv => by
  unfold valsS at hv
  simp only [List.mem_append, List.mem_singleton] at hv
  rcases hv with hv | hv | hv | hv
  · unfold thsV at hv
    obtain ⟨i, hi, hm⟩ := List.mem_flatMap.1 hv
    have hi := List.mem_range.1 hi
    unfold thV at hm
    obtain ⟨a, ha⟩ : ∃ x, s.pc[i]? = some x := ⟨_, List.getElem?_eq_getElem hi⟩
    obtain ⟨b, hb⟩ : ∃ x, s.ph[i]? = some x := ⟨_, List.getElem?_eq_getElem (by omega)⟩
    obtain ⟨c, hc⟩ : ∃ x, s.regs[i]? = some x := ⟨_, List.getElem?_eq_getElem (by omega)⟩
    rw [getDS_of ha, getDS_of hb, getDS_of hc] at hm
    simp only [List.mem_cons] at hm
    rcases hm with rfl | rfl | hm
    · exact h.pc _ (List.mem_of_getElem? ha)
    · exact h.ph _ (List.mem_of_getElem? hb)
    · exact h.rg _ (List.mem_of_getElem? hc) v hm
  · exact h.mm v hv
  · obtain ⟨b, hb, hm⟩ := List.mem_flatMap.1 hv
    have hw := h.bf b hb
    unfold bfV wrV at hm
    simp only [List.mem_cons, List.mem_flatMap] at hm
    rcases hm with rfl | ⟨x, hx, hm⟩
    · exact ⟨by omega, by have := hw.1; omega⟩
    · simp only [List.not_mem_nil, or_false] at hm
      rcases hm with rfl | rfl
      · exact (hw.2 x hx).1
      · exact (hw.2 x hx).2
  · rw [hv]; exact h.lk
theorem pre_put {s : ST} (hf : s.Few) (hl : s.pc.length = s.ph.length ∧ s.pc.length = s.regs.length) (hw : Wid s) {vs : List Int} {v : Int} (h : Pre s (vs ++ [v])) : I64 v ∧ (cod vs).length ≤ 1099511627776 := by
  have hv := wid_vals hl hw
  have hn := vals_len hf
  obtain ⟨r, h⟩ := h
  rw [h] at hv hn
  refine ⟨hv v (by simp), ?_⟩
  have := cod_len (vs := vs) fun u hu => hv u (by simp [hu])
  rw [List.length_append, List.length_append] at hn
  omega
end Go.Proofs.Ytegpnicajlndlaa

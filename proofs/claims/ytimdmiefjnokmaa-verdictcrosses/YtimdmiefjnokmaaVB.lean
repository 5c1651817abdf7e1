/- Final states in memory, small laws: loads and stores of one, three results, cells from an address on; cmp.Compare at int and at int64. -/
import Derived.Test.YtimdmiefjnokmaaEQ
import Derived.Deep.QuietTactic
import Derived.BigQuiet
namespace Go.Proofs.Ytimdmiefjnokmaa
open Go.RowKit M
set_option linter.unusedSimpArgs false
set_option linter.unusedVariables false

def Wf (x : FS) : Prop := ∀ v ∈ x.v, -9223372036854775808 ≤ v ∧ v ≤ 9223372036854775807
theorem fresh_b {w W : World} {b : Nat} (F : Fresh w W b) : Below w.heap.size w W := F.below.mono (by rw [F.at']; exact Nat.le_refl _)
section
variable {w : World} {b : Nat} {x : FS} {ops : Array Oper} {rest : List Oper} {op : Oper} {a : Act} {Q : Exit → Act → World → Prop}
theorem whole (x : FS) : ((encF x).drop 0).take 49 = encF x := by rw [List.drop_zero, List.take_of_length_le (by rw [encF_len]; exact Nat.le_refl _)]
theorem wpList_loadF (hgd : op.guard = none) (y : Operand) (ho : op.op = .load 25 y) (hx : a.eval y = .pointer (some ⟨b, 0, none⟩)) (hc : IsS w b 25 (encF x))
    (h : wpList Try.prog ops Q rest (a.put op.dst (.agg (encF x).toArray)) w) : wpList Try.prog ops Q (op :: rest) a w := by
  refine wpList_loadS hgd 25 y ho hx hc 49 _ Try.underlying25 rfl ?_ ?_
  · rw [whole]; exact infoFx x
  · rw [whole]; exact h
end
theorem ret_S3 {w : World} {b t k j : Nat} {cs : List Value} {fn : Func} {p : Tmp} {R : Ending → World → Prop} {a : Act} (h : fn.results = #[.cell p t, .tmp k, .tmp j]) (hp : a.tmps.getD p undef = .pointer (some ⟨b, 0, none⟩))
    (hd : a.defers = []) (hc : IsS w b t cs) (d : TypeDesc) (hu : Try.prog.underlying t = some d) (hr : (match d with | .struct _ => true | .array _ _ => true | _ => false) = true) (hi : (Try.prog.info? t).map (·.size) = some cs.length) (v u : Value) (hv : a.tmps.getD k undef = v) (hj : a.tmps.getD j undef = u) (hR : R (.returned (.tuple #[.agg cs.toArray, v, u])) w) : bodyPost Try.prog fn R .ret a w := by
  have hc' : w.heap[b]? = some (.cells cs.toArray t (0, 0)) := hc
  have hp' : a.tmps[p]?.getD undef = .pointer (some ⟨b, 0, none⟩) := by simpa using hp
  have hv' : a.tmps[k]?.getD undef = v := by simpa using hv
  have hj' : a.tmps[j]?.getD undef = u := by simpa using hj
  refine ⟨hd, .tuple #[.agg cs.toArray, v, u], ?_, hR⟩
  simp [results, h, hp', hv', hj', asAddr, run_loadVar_row w b t t cs.toArray (0, 0) d hc' hu (by cases d <;> simp_all) (by simpa using hi)]
theorem putL_get : ∀ (vs cs : List Value) (o j : Nat), o + vs.length ≤ cs.length → (putL cs o vs)[j]? = if o ≤ j ∧ j < o + vs.length then vs[j - o]? else cs[j]?
  | [], cs, o, j, h => by rw [if_neg (by simp only [List.length_nil]; omega)]; rfl
  | v :: vs, cs, o, j, h => by
    show (putL (cs.set o v) (o + 1) vs)[j]? = _
    simp only [List.length_cons] at *
    rw [putL_get vs (cs.set o v) (o + 1) j (by rw [List.length_set]; omega)]
    by_cases h1 : o + 1 ≤ j ∧ j < o + 1 + vs.length
    · rw [if_pos h1, if_pos (by omega), show j - o = (j - (o + 1)) + 1 by omega]; rfl
    · rw [if_neg h1]
      by_cases h2 : j = o
      · subst h2
        rw [if_pos (by omega), List.getElem?_set_self (by omega), Nat.sub_self]; rfl
      · rw [if_neg (by omega), List.getElem?_set_ne (by omega)]
theorem putL_all {cs vs : List Value} (h : vs.length = cs.length) : putL cs 0 vs = vs := by
  refine List.ext_getElem? fun j => ?_
  rw [putL_get _ _ _ _ (by omega)]
  by_cases hj : j < vs.length
  · rw [if_pos (by omega)]; rfl
  · rw [if_neg (by omega), List.getElem?_eq_none (by omega), List.getElem?_eq_none (by omega)]
section
variable {w : World} {b : Nat} {x z : FS} {ops : Array Oper} {rest : List Oper} {op : Oper} {a : Act} {Q : Exit → Act → World → Prop}
theorem run_build0 (ho : op.op = .build 25 #[]) : (execOp a.eval op).run Try.prog w = .ok (.value (.agg (encF FS.zero).toArray)) w := by
  have h : Try.t25.zero = some (.agg (encF FS.zero).toArray) := by kernel_rfl
  unfold execOp
  simp [ho, go_sem, zeroValue, h]
theorem wpList_build0F (hgd : op.guard = none) (ho : op.op = .build 25 #[]) (h : wpList Try.prog ops Q rest (a.put op.dst (.agg (encF FS.zero).toArray)) w) : wpList Try.prog ops Q (op :: rest) a w := by
  refine wpList_plain hgd fun K hK => ?_
  unfold Oper.wp
  rw [run_build0 ho]
  exact hK _ _ h
theorem wpList_storeF (hgd : op.guard = none) (y u : Operand) (ho : op.op = .store 25 y u) (hy : a.eval y = .pointer (some ⟨b, 0, none⟩)) (hu : a.eval u = .agg (encF z).toArray) (hc : IsS w b 25 (encF x))
    (h : ∀ W, Upd w W b → IsS W b 25 (encF z) → wpList Try.prog ops Q rest (a.put op.dst undef) W) : wpList Try.prog ops Q (op :: rest) a w :=
  wpList_storeS hgd 25 y u ho hy (encF z) hu hc (by rw [encF_len, encF_len]; omega) (infoFx z) (encF_one z) fun W U I => h W U (by rw [putL_all (by rw [encF_len, encF_len])] at I; exact I)
end
/-- Cells from an address on. -/
def Seg (w : World) (a : Option Addr) (cs : List Value) : Prop := ∀ j v, cs[j]? = some v → ∃ b o, a = some ⟨b, o, none⟩ ∧ b < w.heap.size ∧ w.cell? ⟨b, o + j, none⟩ = some v
theorem Seg.below {w W : World} {a : Option Addr} {cs : List Value} (h : Seg w a cs) (hB : Below w.heap.size w W) : Seg W a cs := fun j v hv => by
  obtain ⟨b, o, h1, h2, h3⟩ := h j v hv
  exact ⟨b, o, h1, Nat.lt_of_lt_of_le h2 hB.size, by rw [hB.cell (p := ⟨b, o + j, none⟩) h2]; exact h3⟩
theorem Seg.nil (w : World) (a : Option Addr) : Seg w a [] := fun j v hv => by simp at hv
def cmpI (x y : Int) : Int := if x < y then -1 else if y < x then 1 else 0
theorem cmpNnan_any (x : Int) (w : World) : Calls Try.prog 14 #[.int .i64 x] w fun e w' => e = .returned (.bool false) ∧ w' = w := by
  have h : (x != x) = false := by simp
  go_enter Try.func14, Try.ntmps14
  go_wp2
  go_ret
  first | exact ⟨rfl, rfl⟩ | exact ⟨by simp, rfl⟩
theorem cmpN_any (x y : Int) (w : World) : Calls Try.prog 11 #[.int .i64 x, .int .i64 y] w fun e w' => e = .returned (.int .i64 (cmpI x y)) ∧ w' = w := by
  by_cases h1 : x < y
  · have hd : decide (x < y) = true := by simpa using h1
    have HC : Hid (cmpI x y = -1) := by show _ = _; unfold cmpI; rw [if_pos h1]
    clear h1
    go_enter Try.func11, Try.ntmps11
    go_wp2_with (go_at_call 14; refine (cmpNnan_any _ _).mono ?_; rintro e w' ⟨rfl, hw'⟩; replace hw' := hw'.symm; subst hw')
    go_ret
    exact ⟨ret_int HC.out.symm, rfl⟩
  · have hd : decide (x < y) = false := by simpa using h1
    by_cases h2 : y < x
    · have hd2 : decide (y < x) = true := by simpa using h2
      have HC : Hid (cmpI x y = 1) := by show _ = _; unfold cmpI; rw [if_neg h1, if_pos h2]
      clear h1 h2
      go_enter Try.func11, Try.ntmps11
      go_wp2_with (go_at_call 14; refine (cmpNnan_any _ _).mono ?_; rintro e w' ⟨rfl, hw'⟩; replace hw' := hw'.symm; subst hw')
      go_ret
      exact ⟨ret_int HC.out.symm, rfl⟩
    · have hd2 : decide (y < x) = false := by simpa using h2
      have HC : Hid (cmpI x y = 0) := by show _ = _; unfold cmpI; rw [if_neg h1, if_neg h2]
      clear h1 h2
      go_enter Try.func11, Try.ntmps11
      go_wp2_with (go_at_call 14; refine (cmpNnan_any _ _).mono ?_; rintro e w' ⟨rfl, hw'⟩; replace hw' := hw'.symm; subst hw')
      go_ret
      exact ⟨ret_int HC.out.symm, rfl⟩
theorem cmpWnan_any (x : Int) (w : World) : Calls Try.prog 16 #[.int .i64 x] w fun e w' => e = .returned (.bool false) ∧ w' = w := by
  have h : (x != x) = false := by simp
  go_enter Try.func16, Try.ntmps16
  go_wp2
  go_ret
  first | exact ⟨rfl, rfl⟩ | exact ⟨by simp, rfl⟩
theorem cmpW_any (x y : Int) (w : World) : Calls Try.prog 15 #[.int .i64 x, .int .i64 y] w fun e w' => e = .returned (.int .i64 (cmpI x y)) ∧ w' = w := by
  by_cases h1 : x < y
  · have hd : decide (x < y) = true := by simpa using h1
    have HC : Hid (cmpI x y = -1) := by show _ = _; unfold cmpI; rw [if_pos h1]
    clear h1
    go_enter Try.func15, Try.ntmps15
    go_wp2_with (go_at_call 16; refine (cmpWnan_any _ _).mono ?_; rintro e w' ⟨rfl, hw'⟩; replace hw' := hw'.symm; subst hw')
    go_ret
    exact ⟨ret_int HC.out.symm, rfl⟩
  · have hd : decide (x < y) = false := by simpa using h1
    by_cases h2 : y < x
    · have hd2 : decide (y < x) = true := by simpa using h2
      have HC : Hid (cmpI x y = 1) := by show _ = _; unfold cmpI; rw [if_neg h1, if_pos h2]
      clear h1 h2
      go_enter Try.func15, Try.ntmps15
      go_wp2_with (go_at_call 16; refine (cmpWnan_any _ _).mono ?_; rintro e w' ⟨rfl, hw'⟩; replace hw' := hw'.symm; subst hw')
      go_ret
      exact ⟨ret_int HC.out.symm, rfl⟩
    · have hd2 : decide (y < x) = false := by simpa using h2
      have HC : Hid (cmpI x y = 0) := by show _ = _; unfold cmpI; rw [if_neg h1, if_neg h2]
      clear h1 h2
      go_enter Try.func15, Try.ntmps15
      go_wp2_with (go_at_call 16; refine (cmpWnan_any _ _).mono ?_; rintro e w' ⟨rfl, hw'⟩; replace hw' := hw'.symm; subst hw')
      go_ret
      exact ⟨ret_int HC.out.symm, rfl⟩
end Go.Proofs.Ytimdmiefjnokmaa

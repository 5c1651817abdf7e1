/- Nodes in memory; fields. -/
import Derived.Test.YtcmkoffamolgmaaX5
import Derived.Test.YtcmkoffamolgmaaT1
namespace Go.Proofs.Ytcmkoffamolgmaa
open Go.RowKit M
set_option linter.unusedSimpArgs false
set_option linter.unusedVariables false

theorem wpList_loadP {w : World} {b t o : Nat} {cs : List Value} {ops : Array Oper} {rest : List Oper} {op : Oper} {a : Act} {Q : Exit → Act → World → Prop} (hgd : op.guard = none) (ty : TypeId) (x : Operand) (ho : op.op = .load ty x) (hx : a.eval x = .pointer (some ⟨b, o, none⟩)) (hc : IsS w b t cs) (k : Nat) (sub : List Value) (hsub : (cs.drop o).take k = sub) (d : TypeDesc)
    (hu : Try.prog.underlying ty = some d) (hd : d.isRow = true) (hi : (Try.prog.info? ty).map (·.size) = some sub.length)
    (h : wpList Try.prog ops Q rest (a.put op.dst (.agg sub.toArray)) w) : wpList Try.prog ops Q (op :: rest) a w := by
  subst hsub
  exact wpList_loadS hgd ty x ho hx hc k d hu hd hi h
/-- A node's cells. -/
def ndL (n : Nd) : List Value := [.int .i64 n.op, .int .i64 n.a, .int .i64 n.b, .int .i64 n.th, .string n.nm, .int .i64 n.val]
def noNd : Nd := ⟨0, 0, 0, 0, noName, 0⟩
theorem nd_one (n : Nd) : ∀ v ∈ ndL n, v.oneCell' = true := by simp [ndL, Value.oneCell']
theorem infoNd : (Try.prog.info? 46).map (·.size) = some 6 := by kernel_rfl
/-- Nodes in memory. -/
def Nds (w : World) (a : Option Addr) (ns : List Nd) : Prop := ∀ j n, ns[j]? = some n → ∃ b o, a = some ⟨b, o, none⟩ ∧ b < w.heap.size ∧ w.rangeAt b (o + j * 6) (ndL n)
theorem Nds.below {w W : World} {a : Option Addr} {ns : List Nd} (h : Nds w a ns) (hB : Below w.heap.size w W) : Nds W a ns := fun j g hg => by
  obtain ⟨b, o, h1, h2, h3⟩ := h j g hg
  refine ⟨b, o, h1, Nat.lt_of_lt_of_le h2 hB.size, fun i v hv => ?_⟩
  rw [hB.cell (p := ⟨b, o + j * 6 + i, none⟩) h2]
  exact h3 i v hv
/-- Whether bytes are a name. -/
def nmB (s : ByteArray) : Bool := nameB s.data.toList
theorem noName_eq (s : ByteArray) : (s.toList == noName.toList) = decide (s = noName) := by
  rw [toL, toL, Bool.eq_iff_iff]
  simp only [beq_iff_eq, decide_eq_true_eq]
  constructor
  · intro h
    cases s with
    | mk d => cases d with
      | mk l => simp [noName] at h ⊢; exact h
  · rintro rfl; rfl

theorem nm_nil {nm : ByteArray} (h : nm.toList = []) : nm = noName := by
  rw [toL] at h
  cases nm with
  | mk d => cases d with
    | mk l => simp only at h; subst h; rfl
theorem nm_ne {nm : ByteArray} (h : ¬ nm.toList = []) : ¬ nm = noName := fun e => h (by rw [e, toL]; rfl)

set_option maxRecDepth 100000 in
set_option maxHeartbeats 1000000 in
theorem fields_1 (a b th : Int) (nm : ByteArray) (val : Int) (w : World) : Calls Try.prog 32 #[.agg (ndL ⟨1, a, b, th, nm, val⟩).toArray] w fun e w' => e = .returned (.bool (fieldsB nmB ⟨1, a, b, th, nm, val⟩)) ∧ Below w.heap.size w w' := by
  dsimp only [ndL]
  go_enter Try.func32, Try.ntmps32
  go_wp2_with (first
    | (refine wpList_boxS rfl 46 _ rfl (ndL ⟨1, a, b, th, nm, val⟩) rfl ?_; intro W1 b1 F1 N1; have B1 := F1.trans (Below.refl _ w) (Nat.le_refl _); have c0 : W1.cell? ⟨b1, 0, none⟩ = some (.int .i64 1) := N1.cell 0; have c1 : W1.cell? ⟨b1, 1, none⟩ = some (.int .i64 a) := N1.cell 1; have c2 : W1.cell? ⟨b1, 2, none⟩ = some (.int .i64 b) := N1.cell 2; clear F1)
    | (refine wpList_loadP rfl 46 _ rfl rfl N1 6 (ndL ⟨1, a, b, th, nm, val⟩) rfl _ Try.underlying46 rfl infoNd ?_; dsimp only [ndL]))
  all_goals go_ret
  all_goals refine ⟨ret_bool ?_, B1⟩
  all_goals (simp only [fieldsB]; first | (symm; simp only [reduceIte, Int.reduceEq, true_or, or_true, false_or, or_false, decide_eq_true_eq]; first | exact ⟨by assumption, by assumption, by assumption, nm_nil (by assumption), by assumption⟩ | exact ⟨by assumption, by assumption, nm_nil (by assumption), by assumption⟩ | exact ⟨by assumption, nm_nil (by assumption), by assumption⟩) | (symm; simp [*, nm_nil, nm_ne]; done))

set_option maxRecDepth 100000 in
set_option maxHeartbeats 1000000 in
theorem fields_3 (a b th : Int) (nm : ByteArray) (val : Int) (w : World) : Calls Try.prog 32 #[.agg (ndL ⟨3, a, b, th, nm, val⟩).toArray] w fun e w' => e = .returned (.bool (fieldsB nmB ⟨3, a, b, th, nm, val⟩)) ∧ Below w.heap.size w w' := by
  dsimp only [ndL]
  go_enter Try.func32, Try.ntmps32
  go_wp2_with (first
    | (refine wpList_boxS rfl 46 _ rfl (ndL ⟨3, a, b, th, nm, val⟩) rfl ?_; intro W1 b1 F1 N1; have B1 := F1.trans (Below.refl _ w) (Nat.le_refl _); have c0 : W1.cell? ⟨b1, 0, none⟩ = some (.int .i64 3) := N1.cell 0; have c1 : W1.cell? ⟨b1, 1, none⟩ = some (.int .i64 a) := N1.cell 1; have c2 : W1.cell? ⟨b1, 2, none⟩ = some (.int .i64 b) := N1.cell 2; clear F1)
    | (refine wpList_loadP rfl 46 _ rfl rfl N1 6 (ndL ⟨3, a, b, th, nm, val⟩) rfl _ Try.underlying46 rfl infoNd ?_; dsimp only [ndL]))
  all_goals go_ret
  all_goals refine ⟨ret_bool ?_, B1⟩
  all_goals (simp only [fieldsB]; first | (symm; simp only [reduceIte, Int.reduceEq, true_or, or_true, false_or, or_false, decide_eq_true_eq]; first | exact ⟨by assumption, by assumption, by assumption, nm_nil (by assumption), by assumption⟩ | exact ⟨by assumption, by assumption, nm_nil (by assumption), by assumption⟩ | exact ⟨by assumption, nm_nil (by assumption), by assumption⟩) | (symm; simp [*, nm_nil, nm_ne]; done))

set_option maxRecDepth 100000 in
set_option maxHeartbeats 1000000 in
theorem fields_4 (a b th : Int) (nm : ByteArray) (val : Int) (w : World) : Calls Try.prog 32 #[.agg (ndL ⟨4, a, b, th, nm, val⟩).toArray] w fun e w' => e = .returned (.bool (fieldsB nmB ⟨4, a, b, th, nm, val⟩)) ∧ Below w.heap.size w w' := by
  dsimp only [ndL]
  go_enter Try.func32, Try.ntmps32
  go_wp2_with (first
    | (refine wpList_boxS rfl 46 _ rfl (ndL ⟨4, a, b, th, nm, val⟩) rfl ?_; intro W1 b1 F1 N1; have B1 := F1.trans (Below.refl _ w) (Nat.le_refl _); have c0 : W1.cell? ⟨b1, 0, none⟩ = some (.int .i64 4) := N1.cell 0; have c1 : W1.cell? ⟨b1, 1, none⟩ = some (.int .i64 a) := N1.cell 1; have c2 : W1.cell? ⟨b1, 2, none⟩ = some (.int .i64 b) := N1.cell 2; clear F1)
    | (refine wpList_loadP rfl 46 _ rfl rfl N1 6 (ndL ⟨4, a, b, th, nm, val⟩) rfl _ Try.underlying46 rfl infoNd ?_; dsimp only [ndL]))
  all_goals go_ret
  all_goals refine ⟨ret_bool ?_, B1⟩
  all_goals (simp only [fieldsB]; first | (symm; simp only [reduceIte, Int.reduceEq, true_or, or_true, false_or, or_false, decide_eq_true_eq]; first | exact ⟨by assumption, by assumption, by assumption, nm_nil (by assumption), by assumption⟩ | exact ⟨by assumption, by assumption, nm_nil (by assumption), by assumption⟩ | exact ⟨by assumption, nm_nil (by assumption), by assumption⟩) | (symm; simp [*, nm_nil, nm_ne]; done))

set_option maxRecDepth 100000 in
set_option maxHeartbeats 1000000 in
theorem fields_5 (a b th : Int) (nm : ByteArray) (val : Int) (w : World) : Calls Try.prog 32 #[.agg (ndL ⟨5, a, b, th, nm, val⟩).toArray] w fun e w' => e = .returned (.bool (fieldsB nmB ⟨5, a, b, th, nm, val⟩)) ∧ Below w.heap.size w w' := by
  dsimp only [ndL]
  go_enter Try.func32, Try.ntmps32
  go_wp2_with (first
    | (refine wpList_boxS rfl 46 _ rfl (ndL ⟨5, a, b, th, nm, val⟩) rfl ?_; intro W1 b1 F1 N1; have B1 := F1.trans (Below.refl _ w) (Nat.le_refl _); have c0 : W1.cell? ⟨b1, 0, none⟩ = some (.int .i64 5) := N1.cell 0; have c1 : W1.cell? ⟨b1, 1, none⟩ = some (.int .i64 a) := N1.cell 1; have c2 : W1.cell? ⟨b1, 2, none⟩ = some (.int .i64 b) := N1.cell 2; clear F1)
    | (refine wpList_loadP rfl 46 _ rfl rfl N1 6 (ndL ⟨5, a, b, th, nm, val⟩) rfl _ Try.underlying46 rfl infoNd ?_; dsimp only [ndL]))
  all_goals go_ret
  all_goals refine ⟨ret_bool ?_, B1⟩
  all_goals (simp only [fieldsB]; first | (symm; simp only [reduceIte, Int.reduceEq, true_or, or_true, false_or, or_false, decide_eq_true_eq]; first | exact ⟨by assumption, by assumption, by assumption, nm_nil (by assumption), by assumption⟩ | exact ⟨by assumption, by assumption, nm_nil (by assumption), by assumption⟩ | exact ⟨by assumption, nm_nil (by assumption), by assumption⟩) | (symm; simp [*, nm_nil, nm_ne]; done))

set_option maxRecDepth 100000 in
set_option maxHeartbeats 1000000 in
theorem fields_2 (a b th : Int) (nm : ByteArray) (hs : nm.size ≤ maxLen) (val : Int) (w : World) : Calls Try.prog 32 #[.agg (ndL ⟨2, a, b, th, nm, val⟩).toArray] w fun e w' => e = .returned (.bool (fieldsB nmB ⟨2, a, b, th, nm, val⟩)) ∧ Below w.heap.size w w' := by
  have cN := fun w => name_any nm hs w
  obtain ⟨V, hV⟩ : ∃ V, fieldsB nmB ⟨2, a, b, th, nm, val⟩ = V := ⟨_, rfl⟩
  rw [hV]
  have HF : Hid (V = decide (a = 0 ∧ b = 0 ∧ -1 ≤ th ∧ th ≤ 9999 ∧ nameB nm.data.toList = true)) := (by show _ = _; rw [← hV]; simp only [fieldsB, nmB, reduceIte, Int.reduceEq]; congr)
  clear hs hV
  generalize nameB nm.data.toList = q at *
  dsimp only [ndL]
  go_enter Try.func32, Try.ntmps32
  go_wp2_with (first
    | (refine wpList_boxS rfl 46 _ rfl (ndL ⟨2, a, b, th, nm, val⟩) rfl ?_; intro W1 b1 F1 N1; have B1 := F1.trans (Below.refl _ w) (Nat.le_refl _); have c0 : W1.cell? ⟨b1, 0, none⟩ = some (.int .i64 2) := N1.cell 0; have c1 : W1.cell? ⟨b1, 1, none⟩ = some (.int .i64 a) := N1.cell 1; have c2 : W1.cell? ⟨b1, 2, none⟩ = some (.int .i64 b) := N1.cell 2; have c3 : W1.cell? ⟨b1, 3, none⟩ = some (.int .i64 th) := N1.cell 3; have c4 : W1.cell? ⟨b1, 4, none⟩ = some (.string nm) := N1.cell 4; clear F1)
    | (go_at_call 51; refine (cN _).mono ?_; rintro e w' ⟨rfl, hw'⟩; replace hw' := hw'.symm; subst hw'))
  all_goals go_ret
  all_goals refine ⟨ret_bool ?_, B1⟩
  all_goals (rw [HF.out, Bool.eq_iff_iff]; first | (simp; omega) | (simp [*]; done))
set_option maxRecDepth 100000 in
set_option maxHeartbeats 1000000 in
theorem fields_0 (op a b th : Int) (nm : ByteArray) (val : Int) (h1 : op ≠ 1) (h2 : op ≠ 2) (h3 : op ≠ 3) (h4 : op ≠ 4) (h5 : op ≠ 5) (w : World) : Calls Try.prog 32 #[.agg (ndL ⟨op, a, b, th, nm, val⟩).toArray] w fun e w' => e = .returned (.bool (fieldsB nmB ⟨op, a, b, th, nm, val⟩)) ∧ Below w.heap.size w w' := by
  have HF : Hid (fieldsB nmB ⟨op, a, b, th, nm, val⟩ = false) := (by show _ = _; simp only [fieldsB]; rw [if_neg h1, if_neg h2, if_neg h3, if_neg (by simp [h4, h5])])
  have e1 : (op == 1) = false := by simpa using h1
  have e2 : (op == 2) = false := by simpa using h2
  have e3 : (op == 3) = false := by simpa using h3
  have e4 : (op == 4) = false := by simpa using h4
  have e5 : (op == 5) = false := by simpa using h5
  clear h1 h2 h3 h4 h5
  dsimp only [ndL]
  go_enter Try.func32, Try.ntmps32
  go_wp2_with (first
    | (refine wpList_boxS rfl 46 _ rfl (ndL ⟨op, a, b, th, nm, val⟩) rfl ?_; intro W1 b1 F1 N1; have B1 := F1.trans (Below.refl _ w) (Nat.le_refl _); have c0 : W1.cell? ⟨b1, 0, none⟩ = some (.int .i64 op) := N1.cell 0; clear F1))
  all_goals go_ret
  all_goals exact ⟨ret_bool HF.out.symm, B1⟩
theorem fields_any (n : Nd) (hs : n.nm.size ≤ maxLen) (w : World) : Calls Try.prog 32 #[.agg (ndL n).toArray] w fun e w' => e = .returned (.bool (fieldsB nmB n)) ∧ Below w.heap.size w w' := by
  obtain ⟨op, a, b, th, nm, val⟩ := n
  by_cases h1 : op = 1
  · subst h1; exact fields_1 a b th nm val w
  by_cases h2 : op = 2
  · subst h2; exact fields_2 a b th nm hs val w
  by_cases h3 : op = 3
  · subst h3; exact fields_3 a b th nm val w
  by_cases h4 : op = 4
  · subst h4; exact fields_4 a b th nm val w
  by_cases h5 : op = 5
  · subst h5; exact fields_5 a b th nm val w
  exact fields_0 op a b th nm val h1 h2 h3 h4 h5 w
end Go.Proofs.Ytcmkoffamolgmaa

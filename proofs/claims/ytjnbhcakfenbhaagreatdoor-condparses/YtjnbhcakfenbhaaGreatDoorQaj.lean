/- Several texts in one: T1, C1. -/
import Derived.Test.YtjnbhcakfenbhaaGreatDoorQai
/- What the program keeps of the trees ahead (where each begins), and what the document's answer keeps (their last nodes). No program is named. -/
namespace Go.Proofs.YtjnbhcakfenbhaaGreatDoor
set_option linter.unusedSimpArgs false
set_option linter.unusedVariables false

/-- The last nodes of trees, the last tree's first. -/
def rootsL : List Tr → Nat → List Int
  | [], _ => []
  | t :: r, i => ((i : Int) - 1) :: rootsL r (i - t.sz)
theorem rootsL_len : ∀ (st : List Tr) (i : Nat), (rootsL st i).length = st.length
  | [], _ => rfl
  | t :: r, i => by simp [rootsL, rootsL_len r]
/-- Where trees begin, by their last nodes. -/
def Begins (f : List Int) : List Tr → Nat → Prop
  | [], i => i = 0
  | t :: r, i => t.sz ≤ i ∧ f[i - 1]? = some ((i : Int) - t.sz) ∧ Begins f r (i - t.sz)
theorem Begins.nil_iff {f : List Int} {st : List Tr} {i : Nat} (h : Begins f st i) : st = [] ↔ i = 0 := by
  cases st with
  | nil => exact ⟨fun _ => h, fun _ => rfl⟩
  | cons t r => exact ⟨(fun e => by cases e), fun e => by have := t.pos; have := h.1; omega⟩
theorem Begins.set {f : List Int} (v : Int) : ∀ {st : List Tr} {i k : Nat}, Begins f st i → i ≤ k → Begins (f.set k v) st i
  | [], _, _, h, _ => h
  | t :: r, i, k, h, hk => by
    have := t.pos
    have := h.1
    exact ⟨h.1, by rw [List.getElem?_set_ne (by omega)]; exact h.2.1, h.2.2.set v (by omega)⟩
/-- A node with two parts: the second one's tree begins behind the first one's. -/
theorem Begins.two {f : List Int} {y : Tr} {r : List Tr} {i : Nat} (h : Begins f (y :: r) i) : r = [] ↔ (i : Int) - y.sz = 0 := by
  have h2 := h.2.2.nil_iff
  have := h.1
  rw [h2]; omega
def fieldsB (nb : ByteArray → Bool) (n : Nd) : Bool :=
  if n.op = 1 then decide (n.a = 0 ∧ n.b = 0 ∧ n.th = 0 ∧ n.nm = noName ∧ n.val = 0)
  else if n.op = 2 then decide (n.a = 0 ∧ n.b = 0 ∧ -1 ≤ n.th ∧ n.th ≤ 9999 ∧ nb n.nm = true)
  else if n.op = 3 then decide (n.b = 0 ∧ n.th = 0 ∧ n.nm = noName ∧ n.val = 0)
  else if n.op = 4 ∨ n.op = 5 then decide (n.th = 0 ∧ n.nm = noName ∧ n.val = 0)
  else false
/-- Where a node's nodes begin, the program's way. -/
def runF (f : List Int) (i : Nat) (n : Nd) : Option Int :=
  if n.op = 3 then (if i = 0 ∨ n.a ≠ (i : Int) - 1 then none else f[i - 1]?)
  else if n.op = 4 ∨ n.op = 5 then
    (if i = 0 ∨ n.b ≠ (i : Int) - 1 then none
     else match f[i - 1]? with
      | none => none
      | some k => if k = 0 ∨ n.a ≠ k - 1 then none else f[(k - 1).toNat]?)
  else some (i : Int)
theorem step_fields {nb : ByteArray → Bool} {st : List Tr} {i : Nat} {n : Nd} (h : fieldsB nb n = false) : stepT nb st i n = none := by
  unfold fieldsB at h
  unfold stepT
  by_cases h1 : n.op = 1
  · rw [if_pos h1] at h ⊢
    rw [if_neg (of_decide_eq_false h)]
  · rw [if_neg h1] at h ⊢
    by_cases h2 : n.op = 2
    · rw [if_pos h2] at h ⊢
      rw [if_neg (of_decide_eq_false h)]
    · rw [if_neg h2] at h ⊢
      by_cases h3 : n.op = 3
      · rw [if_pos h3] at h ⊢
        have := of_decide_eq_false h
        rcases st with _ | ⟨t, r⟩
        · rfl
        · exact if_neg (fun e => this e.2)
      · rw [if_neg h3] at h ⊢
        by_cases h4 : n.op = 4
        · rw [if_pos (.inl h4)] at h
          rw [if_pos h4]
          have := of_decide_eq_false h
          rcases st with _ | ⟨y, _ | ⟨x, r⟩⟩
          · rfl
          · rfl
          · exact if_neg (fun e => this e.2.2)
        · rw [if_neg h4]
          by_cases h5 : n.op = 5
          · rw [if_pos (.inr h5)] at h
            rw [if_pos h5]
            have := of_decide_eq_false h
            rcases st with _ | ⟨y, _ | ⟨x, r⟩⟩
            · rfl
            · rfl
            · exact if_neg (fun e => this e.2.2)
          · rw [if_neg h5]
theorem step_run_none {nb : ByteArray → Bool} {f : List Int} {st : List Tr} {i : Nat} {n : Nd} (hB : Begins f st i) (h : runF f i n = none) : stepT nb st i n = none := by
  unfold runF at h
  unfold stepT
  by_cases h3 : n.op = 3
  · rw [if_neg (by omega), if_neg (by omega), if_pos h3]
    rw [if_pos h3] at h
    rcases st with _ | ⟨t, r⟩
    · rfl
    · split at h
      · rename_i hc
        have : i ≠ 0 := by have := t.pos; have := hB.1; omega
        exact if_neg (fun e => by rcases hc with hc | hc; exact this hc; exact hc e.1)
      · rw [hB.2.1] at h; cases h
  · rw [if_neg h3] at h
    by_cases h45 : n.op = 4 ∨ n.op = 5
    · rw [if_pos h45] at h
      have key : ∀ (y x : Tr) (r : List Tr), st = y :: x :: r → ¬(n.a = (i : Int) - y.sz - 1 ∧ n.b = (i : Int) - 1 ∧ n.th = 0 ∧ n.nm = noName ∧ n.val = 0) := by
        rintro y x r rfl ⟨e1, e2, _⟩
        have hi : i ≠ 0 := by have := y.pos; have := hB.1; omega
        rw [if_neg (by intro hc; rcases hc with hc | hc; exact hi hc; exact hc e2), hB.2.1] at h
        dsimp only at h
        have h2 := hB.2.2
        have h0 : (i : Int) - y.sz ≠ 0 := by have := x.pos; have := h2.1; omega
        rw [if_neg (by intro hc; rcases hc with hc | hc; exact h0 hc; exact hc e1), show ((i : Int) - y.sz - 1).toNat = i - y.sz - 1 by omega, h2.2.1] at h
        cases h
      rw [if_neg (by omega), if_neg (by omega), if_neg h3]
      by_cases h4 : n.op = 4
      · rw [if_pos h4]
        rcases st with _ | ⟨y, _ | ⟨x, r⟩⟩
        · rfl
        · rfl
        · exact if_neg (key y x r rfl)
      · rw [if_neg h4, if_pos (by omega)]
        rcases st with _ | ⟨y, _ | ⟨x, r⟩⟩
        · rfl
        · rfl
        · exact if_neg (key y x r rfl)
    · rw [if_neg h45] at h; cases h
theorem step_run_some {nb : ByteArray → Bool} {f : List Int} {st : List Tr} {i : Nat} {n : Nd} {k : Int} (hB : Begins f st i) (hf : i < f.length) (hF : fieldsB nb n = true) (h : runF f i n = some k) : ∃ st', stepT nb st i n = some st' ∧ Begins (f.set i k) st' (i + 1) := by
  have last : ∀ v : Int, (f.set i v)[i + 1 - 1]? = some v := fun v => by simp [hf]
  unfold runF at h
  unfold fieldsB at hF
  unfold stepT
  by_cases h1 : n.op = 1
  · rw [if_pos h1] at hF ⊢
    rw [if_neg (by omega), if_neg (by omega)] at h
    cases h
    rw [if_pos (of_decide_eq_true hF)]
    exact ⟨_, rfl, by simp [Tr.sz], by rw [last]; simp [Tr.sz], by simpa [Tr.sz] using hB.set _ (Nat.le_refl _)⟩
  · rw [if_neg h1] at hF ⊢
    by_cases h2 : n.op = 2
    · rw [if_pos h2] at hF ⊢
      rw [if_neg (by omega), if_neg (by omega)] at h
      cases h
      rw [if_pos (of_decide_eq_true hF)]
      exact ⟨_, rfl, by simp [Tr.sz], by rw [last]; simp [Tr.sz], by simpa [Tr.sz] using hB.set _ (Nat.le_refl _)⟩
    · rw [if_neg h2] at hF ⊢
      by_cases h3 : n.op = 3
      · rw [if_pos h3] at hF h ⊢
        have hd := of_decide_eq_true hF
        split at h
        · cases h
        · rename_i hc
          rcases st with _ | ⟨t, r⟩
          · exact absurd (show i = 0 from hB) (by omega)
          · obtain ⟨b1, b2, b3⟩ := hB
            rw [b2] at h
            cases h
            have ha : n.a = (i : Int) - 1 := by omega
            have hp := t.pos
            dsimp only
            rw [if_pos ⟨ha, hd⟩]
            refine ⟨_, rfl, by simp [Tr.sz]; omega, by rw [last]; simp [Tr.sz]; omega, ?_⟩
            rw [show i + 1 - (Tr.not t).sz = i - t.sz by simp [Tr.sz]]
            exact b3.set _ (by omega)
      · rw [if_neg h3] at hF h ⊢
        by_cases h45 : n.op = 4 ∨ n.op = 5
        · rw [if_pos h45] at hF h
          have hd := of_decide_eq_true hF
          split at h
          · cases h
          · rename_i hc
            rcases st with _ | ⟨y, r1⟩
            · exact absurd (show i = 0 from hB) (by omega)
            · obtain ⟨b1, b2, b3⟩ := hB
              rw [b2] at h
              dsimp only at h
              split at h
              · cases h
              · rename_i hk
                rcases r1 with _ | ⟨x, r⟩
                · have : i - y.sz = 0 := b3
                  exact absurd (.inl (by omega)) hk
                · obtain ⟨c1, c2, c3⟩ := b3
                  rw [show ((i : Int) - y.sz - 1).toNat = i - y.sz - 1 by omega, c2] at h
                  cases h
                  have hp := x.pos
                  have hq := y.pos
                  have e1 : ∀ z, z = x.sz + y.sz + 1 → i + 1 - z = i - y.sz - x.sz := fun z hz => by omega
                  by_cases h4 : n.op = 4
                  · rw [if_pos h4]
                    dsimp only
                    rw [if_pos ⟨by omega, by omega, hd⟩]
                    refine ⟨_, rfl, by simp [Tr.sz]; omega, by rw [last]; simp [Tr.sz]; omega, ?_⟩
                    rw [e1 (Tr.and x y).sz rfl]
                    exact c3.set _ (by omega)
                  · rw [if_neg h4, if_pos (by omega)]
                    dsimp only
                    rw [if_pos ⟨by omega, by omega, hd⟩]
                    refine ⟨_, rfl, by simp [Tr.sz]; omega, by rw [last]; simp [Tr.sz]; omega, ?_⟩
                    rw [e1 (Tr.or x y).sz rfl]
                    exact c3.set _ (by omega)
        · rw [if_neg h45] at hF; cases hF
theorem fold_snoc (nb : ByteArray → Bool) : ∀ (l : List Nd) (n : Nd) (i : Nat) (st : List Tr), foldT nb (l ++ [n]) i st = (match foldT nb l i st with | none => none | some st' => stepT nb st' (i + l.length) n)
  | [], n, i, st => by
    simp only [List.nil_append, foldT, List.length_nil, Nat.add_zero]
    cases stepT nb st i n <;> rfl
  | m :: l, n, i, st => by
    simp only [List.cons_append, foldT]
    cases h : stepT nb st i m with
    | none => rfl
    | some st1 =>
      dsimp only
      rw [fold_snoc nb l n (i + 1) st1, List.length_cons, show i + 1 + l.length = i + (l.length + 1) by omega]
theorem fold_none (nb : ByteArray → Bool) : ∀ (l m : List Nd) (i : Nat) (st : List Tr), foldT nb l i st = none → foldT nb (l ++ m) i st = none
  | [], m, i, st, h => by cases h
  | n :: l, m, i, st, h => by
    simp only [List.cons_append, foldT] at h ⊢
    cases h1 : stepT nb st i n with
    | none => rfl
    | some st1 => rw [h1] at h; exact fold_none nb l m (i + 1) st1 h
/-- The nodes up to a place. -/
def upTo (nb : ByteArray → Bool) (ns : List Nd) (i : Nat) : Option (List Tr) := foldT nb (ns.take i) 0 []
theorem upTo_succ {nb : ByteArray → Bool} {ns : List Nd} {i : Nat} {n : Nd} {st : List Tr} (hn : ns[i]? = some n) (h : upTo nb ns i = some st) : upTo nb ns (i + 1) = stepT nb st i n := by
  have hi := (List.getElem?_eq_some_iff.1 hn).1
  have : ns.take (i + 1) = ns.take i ++ [n] := by rw [List.take_add_one, hn]; rfl
  unfold upTo at *
  rw [this, fold_snoc, h]
  simp [List.length_take, Nat.min_eq_left (Nat.le_of_lt hi)]
theorem upTo_none {nb : ByteArray → Bool} {ns : List Nd} {i : Nat} (h : upTo nb ns i = none) : treeOf nb ns = none := by
  have : foldT nb ns 0 [] = none := by
    have := fold_none nb (ns.take i) (ns.drop i) 0 [] h
    rwa [List.take_append_drop] at this
  unfold treeOf
  split
  · rfl
  · rw [this]
theorem upTo_all {nb : ByteArray → Bool} {ns : List Nd} : upTo nb ns ns.length = foldT nb ns 0 [] := by unfold upTo; rw [List.take_length]
theorem treeOf_end {nb : ByteArray → Bool} {ns : List Nd} {st : List Tr} (h1 : 1 ≤ ns.length) (h2 : ns.length ≤ 1024) (h : upTo nb ns ns.length = some st) : (treeOf nb ns).isSome = decide (st.length = 1) := by
  unfold treeOf
  rw [if_neg (by omega), ← upTo_all, h]
  rcases st with _ | ⟨t, _ | ⟨x, r⟩⟩
  · rfl
  · rfl
  · simp
theorem Begins.one {f : List Int} {st : List Tr} {i : Nat} (hB : Begins f st i) (hi : 0 < i) {k : Int} (hk : f[i - 1]? = some k) : st.length = 1 ↔ k = 0 := by
  rcases st with _ | ⟨t, r⟩
  · exact absurd (show i = 0 from hB) (by omega)
  · obtain ⟨b1, b2, b3⟩ := hB
    rw [b2] at hk
    cases hk
    have := b3.nil_iff
    rw [List.length_cons]
    constructor
    · intro h
      have : r = [] := by cases r with | nil => rfl | cons _ _ => simp at h
      have := b3.nil_iff.1 this
      omega
    · intro h
      have : r = [] := b3.nil_iff.2 (by omega)
      simp [this]
end Go.Proofs.YtjnbhcakfenbhaaGreatDoor
/- Nodes in memory; fields. -/
namespace Go.Proofs.YtjnbhcakfenbhaaGreatDoor
open Go.RowKit M
set_option linter.unusedSimpArgs false
set_option linter.unusedVariables false

theorem wpList_loadP {w : World} {b t o : Nat} {cs : List Value} {ops : Array Oper} {rest : List Oper} {op : Oper} {a : Act} {Q : Exit → Act → World → Prop} (hgd : op.guard = none) (ty : TypeId) (x : Operand) (ho : op.op = .load ty x) (hx : a.eval x = .pointer (some ⟨b, o, none⟩)) (hc : IsS w b t cs) (k : Nat) (sub : List Value) (hsub : (cs.drop o).take k = sub) (d : TypeDesc)
    (hu : Tryz.prog.underlying ty = some d) (hd : d.isRow = true) (hi : (Tryz.prog.info? ty).map (·.size) = some sub.length)
    (h : wpList Tryz.prog ops Q rest (a.put op.dst (.agg sub.toArray)) w) : wpList Tryz.prog ops Q (op :: rest) a w := by
  subst hsub
  exact wpList_loadS hgd ty x ho hx hc k d hu hd hi h
/-- A node's cells. -/
def ndL (n : Nd) : List Value := [.int .i64 n.op, .int .i64 n.a, .int .i64 n.b, .int .i64 n.th, .string n.nm, .int .i64 n.val]
def noNd : Nd := ⟨0, 0, 0, 0, noName, 0⟩
theorem nd_one (n : Nd) : ∀ v ∈ ndL n, v.oneCell' = true := by simp [ndL, Value.oneCell']
theorem infoNd : (Tryz.prog.info? 62).map (·.size) = some 6 := by kernel_rfl
/-- Nodes in memory. -/
def Nds (w : World) (a : Option Addr) (ns : List Nd) : Prop := ∀ j n, ns[j]? = some n → ∃ b o, a = some ⟨b, o, none⟩ ∧ b < w.heap.size ∧ w.rangeAt b (o + j * 6) (ndL n)
theorem Nds.below {w W : World} {a : Option Addr} {ns : List Nd} (h : Nds w a ns) (hB : Below w.heap.size w W) : Nds W a ns := fun j g hg => by
  obtain ⟨b, o, h1, h2, h3⟩ := h j g hg
  refine ⟨b, o, h1, Nat.lt_of_lt_of_le h2 hB.size, fun i v hv => ?_⟩
  rw [hB.cell (p := ⟨b, o + j * 6 + i, none⟩) h2]
  exact h3 i v hv
/-- Whether bytes are a name. -/
def nmB (s : ByteArray) : Bool := nameB s.data.toList
theorem noName_eq (s : ByteArray) : (s.toList == noName.toList) = decide (s = noName) := by
  rw [toL, toL, Bool.eq_iff_iff]
  simp only [beq_iff_eq, decide_eq_true_eq]
  constructor
  · intro h
    cases s with
    | mk d => cases d with
      | mk l => simp [noName] at h ⊢; exact h
  · rintro rfl; rfl

theorem nm_nil {nm : ByteArray} (h : nm.toList = []) : nm = noName := by
  rw [toL] at h
  cases nm with
  | mk d => cases d with
    | mk l => simp only at h; subst h; rfl
theorem nm_ne {nm : ByteArray} (h : ¬ nm.toList = []) : ¬ nm = noName := fun e => h (by rw [e, toL]; rfl)

set_option maxRecDepth 100000 in
set_option maxHeartbeats 1000000 in
theorem fields_1 (a b th : Int) (nm : ByteArray) (val : Int) (w : World) : Calls Tryz.prog 52 #[.agg (ndL ⟨1, a, b, th, nm, val⟩).toArray] w fun e w' => e = .returned (.bool (fieldsB nmB ⟨1, a, b, th, nm, val⟩)) ∧ Below w.heap.size w w' := by
  dsimp only [ndL]
  go_enter Tryz.func52, Tryz.ntmps52
  go_wp2_with (first
    | (refine wpList_boxS rfl 62 _ rfl (ndL ⟨1, a, b, th, nm, val⟩) rfl ?_; intro W1 b1 F1 N1; have B1 := F1.trans (Below.refl _ w) (Nat.le_refl _); have c0 : W1.cell? ⟨b1, 0, none⟩ = some (.int .i64 1) := N1.cell 0; have c1 : W1.cell? ⟨b1, 1, none⟩ = some (.int .i64 a) := N1.cell 1; have c2 : W1.cell? ⟨b1, 2, none⟩ = some (.int .i64 b) := N1.cell 2; clear F1)
    | (refine wpList_loadP rfl 62 _ rfl rfl N1 6 (ndL ⟨1, a, b, th, nm, val⟩) rfl _ Tryz.underlying62 rfl infoNd ?_; dsimp only [ndL]))
  all_goals go_ret
  all_goals refine ⟨ret_bool ?_, B1⟩
  all_goals (simp only [fieldsB]; first | (symm; simp only [reduceIte, Int.reduceEq, true_or, or_true, false_or, or_false, decide_eq_true_eq]; first | exact ⟨by assumption, by assumption, by assumption, nm_nil (by assumption), by assumption⟩ | exact ⟨by assumption, by assumption, nm_nil (by assumption), by assumption⟩ | exact ⟨by assumption, nm_nil (by assumption), by assumption⟩) | (symm; simp [*, nm_nil, nm_ne]; done))

set_option maxRecDepth 100000 in
set_option maxHeartbeats 1000000 in
theorem fields_3 (a b th : Int) (nm : ByteArray) (val : Int) (w : World) : Calls Tryz.prog 52 #[.agg (ndL ⟨3, a, b, th, nm, val⟩).toArray] w fun e w' => e = .returned (.bool (fieldsB nmB ⟨3, a, b, th, nm, val⟩)) ∧ Below w.heap.size w w' := by
  dsimp only [ndL]
  go_enter Tryz.func52, Tryz.ntmps52
  go_wp2_with (first
    | (refine wpList_boxS rfl 62 _ rfl (ndL ⟨3, a, b, th, nm, val⟩) rfl ?_; intro W1 b1 F1 N1; have B1 := F1.trans (Below.refl _ w) (Nat.le_refl _); have c0 : W1.cell? ⟨b1, 0, none⟩ = some (.int .i64 3) := N1.cell 0; have c1 : W1.cell? ⟨b1, 1, none⟩ = some (.int .i64 a) := N1.cell 1; have c2 : W1.cell? ⟨b1, 2, none⟩ = some (.int .i64 b) := N1.cell 2; clear F1)
    | (refine wpList_loadP rfl 62 _ rfl rfl N1 6 (ndL ⟨3, a, b, th, nm, val⟩) rfl _ Tryz.underlying62 rfl infoNd ?_; dsimp only [ndL]))
  all_goals go_ret
  all_goals refine ⟨ret_bool ?_, B1⟩
  all_goals (simp only [fieldsB]; first | (symm; simp only [reduceIte, Int.reduceEq, true_or, or_true, false_or, or_false, decide_eq_true_eq]; first | exact ⟨by assumption, by assumption, by assumption, nm_nil (by assumption), by assumption⟩ | exact ⟨by assumption, by assumption, nm_nil (by assumption), by assumption⟩ | exact ⟨by assumption, nm_nil (by assumption), by assumption⟩) | (symm; simp [*, nm_nil, nm_ne]; done))

set_option maxRecDepth 100000 in
set_option maxHeartbeats 1000000 in
theorem fields_4 (a b th : Int) (nm : ByteArray) (val : Int) (w : World) : Calls Tryz.prog 52 #[.agg (ndL ⟨4, a, b, th, nm, val⟩).toArray] w fun e w' => e = .returned (.bool (fieldsB nmB ⟨4, a, b, th, nm, val⟩)) ∧ Below w.heap.size w w' := by
  dsimp only [ndL]
  go_enter Tryz.func52, Tryz.ntmps52
  go_wp2_with (first
    | (refine wpList_boxS rfl 62 _ rfl (ndL ⟨4, a, b, th, nm, val⟩) rfl ?_; intro W1 b1 F1 N1; have B1 := F1.trans (Below.refl _ w) (Nat.le_refl _); have c0 : W1.cell? ⟨b1, 0, none⟩ = some (.int .i64 4) := N1.cell 0; have c1 : W1.cell? ⟨b1, 1, none⟩ = some (.int .i64 a) := N1.cell 1; have c2 : W1.cell? ⟨b1, 2, none⟩ = some (.int .i64 b) := N1.cell 2; clear F1)
    | (refine wpList_loadP rfl 62 _ rfl rfl N1 6 (ndL ⟨4, a, b, th, nm, val⟩) rfl _ Tryz.underlying62 rfl infoNd ?_; dsimp only [ndL]))
  all_goals go_ret
  all_goals refine ⟨ret_bool ?_, B1⟩
  all_goals (simp only [fieldsB]; first | (symm; simp only [reduceIte, Int.reduceEq, true_or, or_true, false_or, or_false, decide_eq_true_eq]; first | exact ⟨by assumption, by assumption, by assumption, nm_nil (by assumption), by assumption⟩ | exact ⟨by assumption, by assumption, nm_nil (by assumption), by assumption⟩ | exact ⟨by assumption, nm_nil (by assumption), by assumption⟩) | (symm; simp [*, nm_nil, nm_ne]; done))

set_option maxRecDepth 100000 in
set_option maxHeartbeats 1000000 in
theorem fields_5 (a b th : Int) (nm : ByteArray) (val : Int) (w : World) : Calls Tryz.prog 52 #[.agg (ndL ⟨5, a, b, th, nm, val⟩).toArray] w fun e w' => e = .returned (.bool (fieldsB nmB ⟨5, a, b, th, nm, val⟩)) ∧ Below w.heap.size w w' := by
  dsimp only [ndL]
  go_enter Tryz.func52, Tryz.ntmps52
  go_wp2_with (first
    | (refine wpList_boxS rfl 62 _ rfl (ndL ⟨5, a, b, th, nm, val⟩) rfl ?_; intro W1 b1 F1 N1; have B1 := F1.trans (Below.refl _ w) (Nat.le_refl _); have c0 : W1.cell? ⟨b1, 0, none⟩ = some (.int .i64 5) := N1.cell 0; have c1 : W1.cell? ⟨b1, 1, none⟩ = some (.int .i64 a) := N1.cell 1; have c2 : W1.cell? ⟨b1, 2, none⟩ = some (.int .i64 b) := N1.cell 2; clear F1)
    | (refine wpList_loadP rfl 62 _ rfl rfl N1 6 (ndL ⟨5, a, b, th, nm, val⟩) rfl _ Tryz.underlying62 rfl infoNd ?_; dsimp only [ndL]))
  all_goals go_ret
  all_goals refine ⟨ret_bool ?_, B1⟩
  all_goals (simp only [fieldsB]; first | (symm; simp only [reduceIte, Int.reduceEq, true_or, or_true, false_or, or_false, decide_eq_true_eq]; first | exact ⟨by assumption, by assumption, by assumption, nm_nil (by assumption), by assumption⟩ | exact ⟨by assumption, by assumption, nm_nil (by assumption), by assumption⟩ | exact ⟨by assumption, nm_nil (by assumption), by assumption⟩) | (symm; simp [*, nm_nil, nm_ne]; done))

set_option maxRecDepth 100000 in
set_option maxHeartbeats 1000000 in
theorem fields_2 (a b th : Int) (nm : ByteArray) (hs : nm.size ≤ maxLen) (val : Int) (w : World) : Calls Tryz.prog 52 #[.agg (ndL ⟨2, a, b, th, nm, val⟩).toArray] w fun e w' => e = .returned (.bool (fieldsB nmB ⟨2, a, b, th, nm, val⟩)) ∧ Below w.heap.size w w' := by
  have cN := fun w => name_any nm hs w
  obtain ⟨V, hV⟩ : ∃ V, fieldsB nmB ⟨2, a, b, th, nm, val⟩ = V := ⟨_, rfl⟩
  rw [hV]
  have HF : Hid (V = decide (a = 0 ∧ b = 0 ∧ -1 ≤ th ∧ th ≤ 9999 ∧ nameB nm.data.toList = true)) := (by show _ = _; rw [← hV]; simp only [fieldsB, nmB, reduceIte, Int.reduceEq]; congr)
  clear hs hV
  generalize nameB nm.data.toList = q at *
  dsimp only [ndL]
  go_enter Tryz.func52, Tryz.ntmps52
  go_wp2_with (first
    | (refine wpList_boxS rfl 62 _ rfl (ndL ⟨2, a, b, th, nm, val⟩) rfl ?_; intro W1 b1 F1 N1; have B1 := F1.trans (Below.refl _ w) (Nat.le_refl _); have c0 : W1.cell? ⟨b1, 0, none⟩ = some (.int .i64 2) := N1.cell 0; have c1 : W1.cell? ⟨b1, 1, none⟩ = some (.int .i64 a) := N1.cell 1; have c2 : W1.cell? ⟨b1, 2, none⟩ = some (.int .i64 b) := N1.cell 2; have c3 : W1.cell? ⟨b1, 3, none⟩ = some (.int .i64 th) := N1.cell 3; have c4 : W1.cell? ⟨b1, 4, none⟩ = some (.string nm) := N1.cell 4; clear F1)
    | (go_at_call 76; refine (cN _).mono ?_; rintro e w' ⟨rfl, hw'⟩; replace hw' := hw'.symm; subst hw'))
  all_goals go_ret
  all_goals refine ⟨ret_bool ?_, B1⟩
  all_goals (rw [HF.out, Bool.eq_iff_iff]; first | (simp; omega) | (simp [*]; done))
set_option maxRecDepth 100000 in
set_option maxHeartbeats 1000000 in
theorem fields_0 (op a b th : Int) (nm : ByteArray) (val : Int) (h1 : op ≠ 1) (h2 : op ≠ 2) (h3 : op ≠ 3) (h4 : op ≠ 4) (h5 : op ≠ 5) (w : World) : Calls Tryz.prog 52 #[.agg (ndL ⟨op, a, b, th, nm, val⟩).toArray] w fun e w' => e = .returned (.bool (fieldsB nmB ⟨op, a, b, th, nm, val⟩)) ∧ Below w.heap.size w w' := by
  have HF : Hid (fieldsB nmB ⟨op, a, b, th, nm, val⟩ = false) := (by show _ = _; simp only [fieldsB]; rw [if_neg h1, if_neg h2, if_neg h3, if_neg (by simp [h4, h5])])
  have e1 : (op == 1) = false := by simpa using h1
  have e2 : (op == 2) = false := by simpa using h2
  have e3 : (op == 3) = false := by simpa using h3
  have e4 : (op == 4) = false := by simpa using h4
  have e5 : (op == 5) = false := by simpa using h5
  clear h1 h2 h3 h4 h5
  dsimp only [ndL]
  go_enter Tryz.func52, Tryz.ntmps52
  go_wp2_with (first
    | (refine wpList_boxS rfl 62 _ rfl (ndL ⟨op, a, b, th, nm, val⟩) rfl ?_; intro W1 b1 F1 N1; have B1 := F1.trans (Below.refl _ w) (Nat.le_refl _); have c0 : W1.cell? ⟨b1, 0, none⟩ = some (.int .i64 op) := N1.cell 0; clear F1))
  all_goals go_ret
  all_goals exact ⟨ret_bool HF.out.symm, B1⟩
theorem fields_any (n : Nd) (hs : n.nm.size ≤ maxLen) (w : World) : Calls Tryz.prog 52 #[.agg (ndL n).toArray] w fun e w' => e = .returned (.bool (fieldsB nmB n)) ∧ Below w.heap.size w w' := by
  obtain ⟨op, a, b, th, nm, val⟩ := n
  by_cases h1 : op = 1
  · subst h1; exact fields_1 a b th nm val w
  by_cases h2 : op = 2
  · subst h2; exact fields_2 a b th nm hs val w
  by_cases h3 : op = 3
  · subst h3; exact fields_3 a b th nm val w
  by_cases h4 : op = 4
  · subst h4; exact fields_4 a b th nm val w
  by_cases h5 : op = 5
  · subst h5; exact fields_5 a b th nm val w
  exact fields_0 op a b th nm val h1 h2 h3 h4 h5 w
end Go.Proofs.YtjnbhcakfenbhaaGreatDoor

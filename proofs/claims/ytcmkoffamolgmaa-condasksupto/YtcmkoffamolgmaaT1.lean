/- What the program keeps of the trees ahead (where each begins), and what the document's answer keeps (their last nodes). No program is named. -/
import Derived.Test.YtcmkoffamolgmaaT0
namespace Go.Proofs.Ytcmkoffamolgmaa
set_option linter.unusedSimpArgs false
set_option linter.unusedVariables false

/-- The last nodes of trees, the last tree's first. -/
def rootsL : List Tr → Nat → List Int
  | [], _ => []
  | t :: r, i => ((i : Int) - 1) :: rootsL r (i - t.sz)
theorem rootsL_len : ∀ (st : List Tr) (i : Nat), (rootsL st i).length = st.length
  | [], _ => rfl
  | t :: r, i => by simp [rootsL, rootsL_len r]
/-- Where trees begin, by their last nodes. -/
def Begins (f : List Int) : List Tr → Nat → Prop
  | [], i => i = 0
  | t :: r, i => t.sz ≤ i ∧ f[i - 1]? = some ((i : Int) - t.sz) ∧ Begins f r (i - t.sz)
theorem Begins.nil_iff {f : List Int} {st : List Tr} {i : Nat} (h : Begins f st i) : st = [] ↔ i = 0 := by
  cases st with
  | nil => exact ⟨fun _ => h, fun _ => rfl⟩
  | cons t r => exact ⟨(fun e => by cases e), fun e => by have := t.pos; have := h.1; omega⟩
theorem Begins.set {f : List Int} (v : Int) : ∀ {st : List Tr} {i k : Nat}, Begins f st i → i ≤ k → Begins (f.set k v) st i
  | [], _, _, h, _ => h
  | t :: r, i, k, h, hk => by
    have := t.pos
    have := h.1
    exact ⟨h.1, by rw [List.getElem?_set_ne (by omega)]; exact h.2.1, h.2.2.set v (by omega)⟩
/-- A node with two parts: the second one's tree begins behind the first one's. -/
theorem Begins.two {f : List Int} {y : Tr} {r : List Tr} {i : Nat} (h : Begins f (y :: r) i) : r = [] ↔ (i : Int) - y.sz = 0 := by
  have h2 := h.2.2.nil_iff
  have := h.1
  rw [h2]; omega
def fieldsB (nb : ByteArray → Bool) (n : Nd) : Bool :=
  if n.op = 1 then decide (n.a = 0 ∧ n.b = 0 ∧ n.th = 0 ∧ n.nm = noName ∧ n.val = 0)
  else if n.op = 2 then decide (n.a = 0 ∧ n.b = 0 ∧ -1 ≤ n.th ∧ n.th ≤ 9999 ∧ nb n.nm = true)
  else if n.op = 3 then decide (n.b = 0 ∧ n.th = 0 ∧ n.nm = noName ∧ n.val = 0)
  else if n.op = 4 ∨ n.op = 5 then decide (n.th = 0 ∧ n.nm = noName ∧ n.val = 0)
  else false
/-- Where a node's nodes begin, the program's way. -/
def runF (f : List Int) (i : Nat) (n : Nd) : Option Int :=
  if n.op = 3 then (if i = 0 ∨ n.a ≠ (i : Int) - 1 then none else f[i - 1]?)
  else if n.op = 4 ∨ n.op = 5 then
    (if i = 0 ∨ n.b ≠ (i : Int) - 1 then none
     else match f[i - 1]? with
      | none => none
      | some k => if k = 0 ∨ n.a ≠ k - 1 then none else f[(k - 1).toNat]?)
  else some (i : Int)
theorem step_fields {nb : ByteArray → Bool} {st : List Tr} {i : Nat} {n : Nd} (h : fieldsB nb n = false) : stepT nb st i n = none := by
  unfold fieldsB at h
  unfold stepT
  by_cases h1 : n.op = 1
  · rw [if_pos h1] at h ⊢
    rw [if_neg (of_decide_eq_false h)]
  · rw [if_neg h1] at h ⊢
    by_cases h2 : n.op = 2
    · rw [if_pos h2] at h ⊢
      rw [if_neg (of_decide_eq_false h)]
    · rw [if_neg h2] at h ⊢
      by_cases h3 : n.op = 3
      · rw [if_pos h3] at h ⊢
        have := of_decide_eq_false h
        rcases st with _ | ⟨t, r⟩
        · rfl
        · exact if_neg (fun e => this e.2)
      · rw [if_neg h3] at h ⊢
        by_cases h4 : n.op = 4
        · rw [if_pos (.inl h4)] at h
          rw [if_pos h4]
          have := of_decide_eq_false h
          rcases st with _ | ⟨y, _ | ⟨x, r⟩⟩
          · rfl
          · rfl
          · exact if_neg (fun e => this e.2.2)
        · rw [if_neg h4]
          by_cases h5 : n.op = 5
          · rw [if_pos (.inr h5)] at h
            rw [if_pos h5]
            have := of_decide_eq_false h
            rcases st with _ | ⟨y, _ | ⟨x, r⟩⟩
            · rfl
            · rfl
            · exact if_neg (fun e => this e.2.2)
          · rw [if_neg h5]
theorem step_run_none {nb : ByteArray → Bool} {f : List Int} {st : List Tr} {i : Nat} {n : Nd} (hB : Begins f st i) (h : runF f i n = none) : stepT nb st i n = none := by
  unfold runF at h
  unfold stepT
  by_cases h3 : n.op = 3
  · rw [if_neg (by omega), if_neg (by omega), if_pos h3]
    rw [if_pos h3] at h
    rcases st with _ | ⟨t, r⟩
    · rfl
    · split at h
      · rename_i hc
        have : i ≠ 0 := by have := t.pos; have := hB.1; omega
        exact if_neg (fun e => by rcases hc with hc | hc; exact this hc; exact hc e.1)
      · rw [hB.2.1] at h; cases h
  · rw [if_neg h3] at h
    by_cases h45 : n.op = 4 ∨ n.op = 5
    · rw [if_pos h45] at h
      have key : ∀ (y x : Tr) (r : List Tr), st = y :: x :: r → ¬(n.a = (i : Int) - y.sz - 1 ∧ n.b = (i : Int) - 1 ∧ n.th = 0 ∧ n.nm = noName ∧ n.val = 0) := by
        rintro y x r rfl ⟨e1, e2, _⟩
        have hi : i ≠ 0 := by have := y.pos; have := hB.1; omega
        rw [if_neg (by intro hc; rcases hc with hc | hc; exact hi hc; exact hc e2), hB.2.1] at h
        dsimp only at h
        have h2 := hB.2.2
        have h0 : (i : Int) - y.sz ≠ 0 := by have := x.pos; have := h2.1; omega
        rw [if_neg (by intro hc; rcases hc with hc | hc; exact h0 hc; exact hc e1), show ((i : Int) - y.sz - 1).toNat = i - y.sz - 1 by omega, h2.2.1] at h
        cases h
      rw [if_neg (by omega), if_neg (by omega), if_neg h3]
      by_cases h4 : n.op = 4
      · rw [if_pos h4]
        rcases st with _ | ⟨y, _ | ⟨x, r⟩⟩
        · rfl
        · rfl
        · exact if_neg (key y x r rfl)
      · rw [if_neg h4, if_pos (by omega)]
        rcases st with _ | ⟨y, _ | ⟨x, r⟩⟩
        · rfl
        · rfl
        · exact if_neg (key y x r rfl)
    · rw [if_neg h45] at h; cases h
theorem step_run_some {nb : ByteArray → Bool} {f : List Int} {st : List Tr} {i : Nat} {n : Nd} {k : Int} (hB : Begins f st i) (hf : i < f.length) (hF : fieldsB nb n = true) (h : runF f i n = some k) : ∃ st', stepT nb st i n = some st' ∧ Begins (f.set i k) st' (i + 1) := by
  have last : ∀ v : Int, (f.set i v)[i + 1 - 1]? = some v := fun v => by simp [hf]
  unfold runF at h
  unfold fieldsB at hF
  unfold stepT
  by_cases h1 : n.op = 1
  · rw [if_pos h1] at hF ⊢
    rw [if_neg (by omega), if_neg (by omega)] at h
    cases h
    rw [if_pos (of_decide_eq_true hF)]
    exact ⟨_, rfl, by simp [Tr.sz], by rw [last]; simp [Tr.sz], by simpa [Tr.sz] using hB.set _ (Nat.le_refl _)⟩
  · rw [if_neg h1] at hF ⊢
    by_cases h2 : n.op = 2
    · rw [if_pos h2] at hF ⊢
      rw [if_neg (by omega), if_neg (by omega)] at h
      cases h
      rw [if_pos (of_decide_eq_true hF)]
      exact ⟨_, rfl, by simp [Tr.sz], by rw [last]; simp [Tr.sz], by simpa [Tr.sz] using hB.set _ (Nat.le_refl _)⟩
    · rw [if_neg h2] at hF ⊢
      by_cases h3 : n.op = 3
      · rw [if_pos h3] at hF h ⊢
        have hd := of_decide_eq_true hF
        split at h
        · cases h
        · rename_i hc
          rcases st with _ | ⟨t, r⟩
          · exact absurd (show i = 0 from hB) (by omega)
          · obtain ⟨b1, b2, b3⟩ := hB
            rw [b2] at h
            cases h
            have ha : n.a = (i : Int) - 1 := by omega
            have hp := t.pos
            dsimp only
            rw [if_pos ⟨ha, hd⟩]
            refine ⟨_, rfl, by simp [Tr.sz]; omega, by rw [last]; simp [Tr.sz]; omega, ?_⟩
            rw [show i + 1 - (Tr.not t).sz = i - t.sz by simp [Tr.sz]]
            exact b3.set _ (by omega)
      · rw [if_neg h3] at hF h ⊢
        by_cases h45 : n.op = 4 ∨ n.op = 5
        · rw [if_pos h45] at hF h
          have hd := of_decide_eq_true hF
          split at h
          · cases h
          · rename_i hc
            rcases st with _ | ⟨y, r1⟩
            · exact absurd (show i = 0 from hB) (by omega)
            · obtain ⟨b1, b2, b3⟩ := hB
              rw [b2] at h
              dsimp only at h
              split at h
              · cases h
              · rename_i hk
                rcases r1 with _ | ⟨x, r⟩
                · have : i - y.sz = 0 := b3
                  exact absurd (.inl (by omega)) hk
                · obtain ⟨c1, c2, c3⟩ := b3
                  rw [show ((i : Int) - y.sz - 1).toNat = i - y.sz - 1 by omega, c2] at h
                  cases h
                  have hp := x.pos
                  have hq := y.pos
                  have e1 : ∀ z, z = x.sz + y.sz + 1 → i + 1 - z = i - y.sz - x.sz := fun z hz => by omega
                  by_cases h4 : n.op = 4
                  · rw [if_pos h4]
                    dsimp only
                    rw [if_pos ⟨by omega, by omega, hd⟩]
                    refine ⟨_, rfl, by simp [Tr.sz]; omega, by rw [last]; simp [Tr.sz]; omega, ?_⟩
                    rw [e1 (Tr.and x y).sz rfl]
                    exact c3.set _ (by omega)
                  · rw [if_neg h4, if_pos (by omega)]
                    dsimp only
                    rw [if_pos ⟨by omega, by omega, hd⟩]
                    refine ⟨_, rfl, by simp [Tr.sz]; omega, by rw [last]; simp [Tr.sz]; omega, ?_⟩
                    rw [e1 (Tr.or x y).sz rfl]
                    exact c3.set _ (by omega)
        · rw [if_neg h45] at hF; cases hF
theorem fold_snoc (nb : ByteArray → Bool) : ∀ (l : List Nd) (n : Nd) (i : Nat) (st : List Tr), foldT nb (l ++ [n]) i st = (match foldT nb l i st with | none => none | some st' => stepT nb st' (i + l.length) n)
  | [], n, i, st => by
    simp only [List.nil_append, foldT, List.length_nil, Nat.add_zero]
    cases stepT nb st i n <;> rfl
  | m :: l, n, i, st => by
    simp only [List.cons_append, foldT]
    cases h : stepT nb st i m with
    | none => rfl
    | some st1 =>
      dsimp only
      rw [fold_snoc nb l n (i + 1) st1, List.length_cons, show i + 1 + l.length = i + (l.length + 1) by omega]
theorem fold_none (nb : ByteArray → Bool) : ∀ (l m : List Nd) (i : Nat) (st : List Tr), foldT nb l i st = none → foldT nb (l ++ m) i st = none
  | [], m, i, st, h => by cases h
  | n :: l, m, i, st, h => by
    simp only [List.cons_append, foldT] at h ⊢
    cases h1 : stepT nb st i n with
    | none => rfl
    | some st1 => rw [h1] at h; exact fold_none nb l m (i + 1) st1 h
/-- The nodes up to a place. -/
def upTo (nb : ByteArray → Bool) (ns : List Nd) (i : Nat) : Option (List Tr) := foldT nb (ns.take i) 0 []
theorem upTo_succ {nb : ByteArray → Bool} {ns : List Nd} {i : Nat} {n : Nd} {st : List Tr} (hn : ns[i]? = some n) (h : upTo nb ns i = some st) : upTo nb ns (i + 1) = stepT nb st i n := by
  have hi := (List.getElem?_eq_some_iff.1 hn).1
  have : ns.take (i + 1) = ns.take i ++ [n] := by rw [List.take_add_one, hn]; rfl
  unfold upTo at *
  rw [this, fold_snoc, h]
  simp [List.length_take, Nat.min_eq_left (Nat.le_of_lt hi)]
theorem upTo_none {nb : ByteArray → Bool} {ns : List Nd} {i : Nat} (h : upTo nb ns i = none) : treeOf nb ns = none := by
  have : foldT nb ns 0 [] = none := by
    have := fold_none nb (ns.take i) (ns.drop i) 0 [] h
    rwa [List.take_append_drop] at this
  unfold treeOf
  split
  · rfl
  · rw [this]
theorem upTo_all {nb : ByteArray → Bool} {ns : List Nd} : upTo nb ns ns.length = foldT nb ns 0 [] := by unfold upTo; rw [List.take_length]
theorem treeOf_end {nb : ByteArray → Bool} {ns : List Nd} {st : List Tr} (h1 : 1 ≤ ns.length) (h2 : ns.length ≤ 1024) (h : upTo nb ns ns.length = some st) : (treeOf nb ns).isSome = decide (st.length = 1) := by
  unfold treeOf
  rw [if_neg (by omega), ← upTo_all, h]
  rcases st with _ | ⟨t, _ | ⟨x, r⟩⟩
  · rfl
  · rfl
  · simp
theorem Begins.one {f : List Int} {st : List Tr} {i : Nat} (hB : Begins f st i) (hi : 0 < i) {k : Int} (hk : f[i - 1]? = some k) : st.length = 1 ↔ k = 0 := by
  rcases st with _ | ⟨t, r⟩
  · exact absurd (show i = 0 from hB) (by omega)
  · obtain ⟨b1, b2, b3⟩ := hB
    rw [b2] at hk
    cases hk
    have := b3.nil_iff
    rw [List.length_cons]
    constructor
    · intro h
      have : r = [] := by cases r with | nil => rfl | cons _ _ => simp at h
      have := b3.nil_iff.1 this
      omega
    · intro h
      have : r = [] := b3.nil_iff.2 (by omega)
      simp [this]
end Go.Proofs.Ytcmkoffamolgmaa

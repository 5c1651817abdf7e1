/- The reference's Makes. -/
import Derived.Test.YtcmkoffamolgmaaR2
namespace Go.Proofs.Ytcmkoffamolgmaa
open Go.RowKit M
set_option linter.unusedSimpArgs false
set_option linter.unusedVariables false

theorem own_form {W : World} {base e s n : Nat} {v : Value} {xs : List Value} (h : W.ownsRow base e s v n xs) : ∃ a cap, v = .slice a n cap := by
  rcases h.2 with ⟨rfl, rfl⟩ | ⟨g', cap', cur, rfl, _⟩
  · exact ⟨_, _, rfl⟩
  · exact ⟨_, _, rfl⟩
theorem own_some {W : World} {base e s n : Nat} {v : Value} {xs : List Value} (h : W.ownsRow base e s v (n + 1) xs) : ∃ g cap, v = .slice (some ⟨g, 0, none⟩) (n + 1) cap ∧ n + 1 ≤ cap := by
  rcases h.2 with ⟨rfl, h⟩ | ⟨g', cap', cur, rfl, _, _, h, _⟩
  · omega
  · exact ⟨_, _, rfl, h⟩
theorem own_updN {W W' : World} {base e s n b : Nat} {v : Value} {xs : List Value} (h : W.ownsRow base e s v n xs) (U : Upd W W' b) (hb : v.ownBlock ≠ some b) : W'.ownsRow base e s v n xs := by
  refine ⟨h.1, ?_⟩
  rcases h.2 with hn | ⟨g, cap, cur, rfl, hg, hh, rest⟩
  · exact Or.inl hn
  · exact Or.inr ⟨g, cap, cur, rfl, hg, (U.block g (fun e => hb (by rw [← e]; rfl))).trans hh, rest⟩
theorem own_belowW {W W' : World} {base e s n : Nat} {v : Value} {xs : List Value} (h : W.ownsRow base e s v n xs) (hb : Below W.heap.size W W') : W'.ownsRow base e s v n xs := by
  refine ⟨h.1, ?_⟩
  rcases h.2 with hn | ⟨g, cap, cur, rfl, hg, hh, rest⟩
  · exact Or.inl hn
  · exact Or.inr ⟨g, cap, cur, rfl, hg, (hb.block g (Array.getElem?_eq_some_iff.1 hh).1).trans hh, rest⟩
theorem own_ne {W : World} {base e s n b t : Nat} {v : Value} {xs cs : List Value} (h : W.ownsRow base e s v n xs) (hc : IsS W b t cs) (hte : t ≠ e) : v.ownBlock ≠ some b := by
  rcases h.2 with ⟨rfl, _⟩ | ⟨g, cap, cur, rfl, hg, hh, rest⟩
  · intro e; cases e
  · intro e'
    cases e'
    rw [show W.heap[g]? = _ from hc] at hh
    cases hh
    exact hte rfl
theorem wpList_buildI {w : World} {ops : Array Oper} {rest : List Oper} {op : Oper} {a : Act} {Q : Exit → Act → World → Prop} (hgd : op.guard = none) (x : Operand) (ho : op.op = .buildSlice 64 1 #[(0, x)]) (c : Int) (hx : a.eval x = .int .i64 c)
    (h : ∀ W b, Fresh w W b → IsS W b 3 [.int .i64 c] → wpList Try.prog ops Q rest (a.put op.dst (.slice (some ⟨b, 0, none⟩) 1 1)) W) : wpList Try.prog ops Q (op :: rest) a w := by
  refine wpList_plain hgd fun K hK => ?_
  have hr : (execOp a.eval op).run Try.prog w = .ok (.value (.slice (some ⟨w.heap.size, 0, none⟩) 1 1)) (w.alloc (.cells [.int .i64 c].toArray 3)) := by
    generalize a.eval = ev at hx ⊢
    unfold execOp
    simp [ho, hx, go_sem, Value.cells]
  unfold Oper.wp
  rw [hr]
  exact hK _ _ (h _ _ (Fresh.alloc w _) (IsS.new w 3 _))
/-- A number is put behind a row of the call's own. -/
theorem wpList_appI {w : World} {ops : Array Oper} {rest : List Oper} {op : Oper} {a : Act} {Q : Exit → Act → World → Prop} (hgd : op.guard = none) (s x : Operand) (ho : op.op = .call { callee := .builtin .append, args := #[s, x], argTypes := #[64, 64] })
    (B : Nat) (v : Value) (n : Nat) (f : List Int) (hs : a.eval s = v) (hown : w.ownsRow B 3 1 v n (intsL f)) (b c : Nat) (k : Int) (hx : a.eval x = .slice (some ⟨b, 0, none⟩) 1 c) (hb : IsS w b 3 [.int .i64 k]) (hn : n ≤ 16777216) (hB : B ≤ w.heap.size)
    (h : ∀ v' w', w'.ownsRow B 3 1 v' (n + 1) (intsL (f ++ [k])) → w.grownBy w' v.ownBlock → wpList Try.prog ops Q rest (a.put op.dst v') w') : wpList Try.prog ops Q (op :: rest) a w := by
  obtain ⟨i0, hi, hz0, hz1, hz2⟩ := parts3
  refine wpList_append_own _ hgd s x 64 ho B 3 i0 (.int .i64 0) 1 8 Try.underlying64 hi hz0 hz1 hz2 rfl (by decide) v n (intsL f) hs hown ⟨b, 0, none⟩ 1 c [.int .i64 k] hx rfl (fun j u hj => by rw [Addr.add_mid, Nat.zero_add, hb.cell]; exact hj) (by intro u hu; simp at hu; subst hu; rfl) (by unfold maxLen; omega) (by omega) hB ?_
  intro v' w' h1 h2 _
  refine h v' w' ?_ h2
  have : intsL (f ++ [k]) = intsL f ++ [.int .i64 k] := by simp [intsL]
  rw [this]
  exact h1
theorem step_len {nb : ByteArray → Bool} {st st' : List Tr} {i : Nat} {n : Nd} (h : stepT nb st i n = some st') : st'.length ≤ st.length + 1 := by
  unfold stepT at h
  split at h
  · split at h
    · cases h; simp
    · cases h
  · split at h
    · split at h
      · cases h; simp
      · cases h
    · split at h
      · rcases st with _ | ⟨t, r⟩
        · cases h
        · dsimp only at h
          split at h
          · cases h; simp
          · cases h
      · split at h
        · rcases st with _ | ⟨y, _ | ⟨x, r⟩⟩
          · cases h
          · cases h
          · dsimp only at h
            split at h
            · cases h; simp
            · cases h
        · split at h
          · rcases st with _ | ⟨y, _ | ⟨x, r⟩⟩
            · cases h
            · cases h
            · dsimp only at h
              split at h
              · cases h; simp
              · cases h
          · cases h
theorem step_other {nb : ByteArray → Bool} {st : List Tr} {i : Nat} {n : Nd} (h1 : n.op ≠ 1) (h2 : n.op ≠ 2) (h3 : n.op ≠ 3) (h4 : n.op ≠ 4) (h5 : n.op ≠ 5) : stepT nb st i n = none := by
  unfold stepT
  rw [if_neg h1, if_neg h2, if_neg h3, if_neg h4, if_neg h5]
/-- The slot of a list's front. -/
theorem intsL_take (f : List Int) (m : Nat) : (intsL f).take m = intsL (f.take m) := by simp [intsL]
end Go.Proofs.Ytcmkoffamolgmaa

/- Split. -/
import Derived.Test.YtpbcngnginffgaaDoorSW1
import Derived.Maps.OwnIn
namespace Go.Proofs.YtpbcngnginffgaaDoor
open Go.RowKit Go.Shelf M
set_option linter.unusedSimpArgs false
set_option linter.unusedVariables false

/-- Pieces of a text. -/
def pcs (s : ByteArray) (o : List (Nat × Nat)) : List Value := o.map fun p => Value.string (s.extract p.1 p.2)
theorem pcs_snoc (s : ByteArray) (o : List (Nat × Nat)) (a b : Nat) : pcs s (o ++ [(a, b)]) = pcs s o ++ [.string (s.extract a b)] := by simp [pcs]
theorem info9' : (Tryd.prog.info? 9).map (fun i => (i.zero, i.size, i.bytes)) = some (some (.string ⟨#[]⟩), 1, 16) := by kernel_rfl
theorem parts9 : ∃ i, Tryd.prog.info? 9 = some i ∧ i.zero = some (.string ⟨#[]⟩) ∧ i.size = 1 ∧ i.bytes = 16 := by
  have h := info9'
  cases hq : Tryd.prog.info? 9 with
  | none => simp [hq] at h
  | some i =>
    simp [hq] at h
    exact ⟨i, rfl, h.1, h.2.1, h.2.2⟩
theorem own_form {W : World} {base e s n : Nat} {v : Value} {xs : List Value} (h : W.ownsRow base e s v n xs) : ∃ a cap, v = .slice a n cap := by
  rcases h.2 with ⟨rfl, rfl⟩ | ⟨g', cap', cur, rfl, _⟩
  · exact ⟨_, _, rfl⟩
  · exact ⟨_, _, rfl⟩
theorem own_belowW {W W' : World} {base e s n : Nat} {v : Value} {xs : List Value} (h : W.ownsRow base e s v n xs) (hb : Below W.heap.size W W') : W'.ownsRow base e s v n xs := by
  refine ⟨h.1, ?_⟩
  rcases h.2 with hn | ⟨g, cap, cur, rfl, hg, hh, rest⟩
  · exact Or.inl hn
  · exact Or.inr ⟨g, cap, cur, rfl, hg, (hb.block g (Array.getElem?_eq_some_iff.1 hh).1).trans hh, rest⟩
theorem wpList_buildT {w : World} {ops : Array Oper} {rest : List Oper} {op : Oper} {a : Act} {Q : Exit → Act → World → Prop} (hgd : op.guard = none) (x : Operand) (ho : op.op = .buildSlice 22 1 #[(0, x)]) (c : ByteArray) (hx : a.eval x = .string c)
    (h : ∀ W b, Fresh w W b → IsS W b 9 [.string c] → wpList Tryd.prog ops Q rest (a.put op.dst (.slice (some ⟨b, 0, none⟩) 1 1)) W) : wpList Tryd.prog ops Q (op :: rest) a w := by
  refine wpList_plain hgd fun K hK => ?_
  have hr : (execOp a.eval op).run Tryd.prog w = .ok (.value (.slice (some ⟨w.heap.size, 0, none⟩) 1 1)) (w.alloc (.cells [.string c].toArray 9)) := by
    generalize a.eval = ev at hx ⊢
    unfold execOp
    simp [ho, hx, go_sem, Value.cells]
  unfold Oper.wp
  rw [hr]
  exact hK _ _ (h _ _ (Fresh.alloc w _) (IsS.new w 9 _))
/-- A text is put behind a row of the call's own. -/
theorem wpList_appT {w : World} {ops : Array Oper} {rest : List Oper} {op : Oper} {a : Act} {Q : Exit → Act → World → Prop} (hgd : op.guard = none) (s x : Operand) (ho : op.op = .call { callee := .builtin .append, args := #[s, x], argTypes := #[22, 22] })
    (B : Nat) (v : Value) (n : Nat) (f : List Value) (hs : a.eval s = v) (hown : w.ownsRow B 9 1 v n f) (b c : Nat) (k : ByteArray) (hx : a.eval x = .slice (some ⟨b, 0, none⟩) 1 c) (hb : IsS w b 9 [.string k]) (hn : n ≤ 16777216) (hB : B ≤ w.heap.size)
    (h : ∀ v' w', w'.ownsRow B 9 1 v' (n + 1) (f ++ [.string k]) → w.grownBy w' v.ownBlock → wpList Tryd.prog ops Q rest (a.put op.dst v') w') : wpList Tryd.prog ops Q (op :: rest) a w := by
  obtain ⟨i0, hi, hz0, hz1, hz2⟩ := parts9
  refine wpList_append_own _ hgd s x 22 ho B 9 i0 (.string ⟨#[]⟩) 1 16 Tryd.underlying22 hi hz0 hz1 hz2 rfl (by decide) v n f hs hown ⟨b, 0, none⟩ 1 c [.string k] hx rfl (fun j u hj => by rw [Addr.add_mid, Nat.zero_add, hb.cell]; exact hj) (by intro u hu; simp at hu; subst hu; rfl) (by unfold maxLen; omega) (by omega) hB ?_
  intro v' w' h1 h2 _
  exact h v' w' h1 h2
/-- What stands while a text is cut. -/
structure SP (w W : World) (s : ByteArray) (v : Value) (n : Nat) (o : List (Nat × Nat)) : Prop where
  own : W.ownsRow w.heap.size 9 1 v n (pcs s o)
  B : Below w.heap.size w W
  len : o.length = n
section
variable {w W W' : World} {s : ByteArray} {v v' : Value} {n : Nat} {o : List (Nat × Nat)} {b : Nat}
theorem SP.grown (h : SP w W s v n o) (hB : Below W.heap.size W W') : SP w W' s v n o := ⟨own_belowW h.own hB, Below.then h.B hB, h.len⟩
theorem SP.fresh (h : SP w W s v n o) (F : Fresh W W' b) : SP w W' s v n o := h.grown (F.trans (Below.refl _ _) (Nat.le_refl _))
theorem SP.app {f k : Nat} (h : SP w W s v n o) (hg : W.grownBy W' v.ownBlock) (O : W'.ownsRow w.heap.size 9 1 v' (n + 1) (pcs s o ++ [.string (s.extract f k)])) : SP w W' s v' (n + 1) (o ++ [(f, k)]) :=
  ⟨by rw [pcs_snoc]; exact O, h.B.grown hg h.B.size (fun j hj => (h.own.lt j hj).1), by rw [List.length_append, h.len]; rfl⟩
end
/-- A place where a line begins, or the end. -/
def LnS (l : List UInt8) (k : Nat) : Prop := k = l.length ∨ k = 0 ∨ l[k - 1]? = some 10
theorem lns_head {l : List UInt8} {k : Nat} (h : LnS l k) (hk : k < l.length) : headB l k = opensB (l.drop k) := by
  unfold headB
  rcases h with h | h | h
  · omega
  · subst h; simp
  · rw [h]; simp
theorem lns_next {l : List UInt8} {k : Nat} (hk : k < l.length) : LnS l (behindF l k) := by
  have := behind_spec hk
  by_cases h : behindF l k < l.length
  · exact .inr (.inr (this.2.2.2 h))
  · exact .inl (by omega)
theorem cuts_next {l : List UInt8} {k : Nat} (hk : k < l.length) : cuts l (behindF l k) = cuts l (k + 1) := by
  have := behind_spec hk
  exact cuts_skip l k _ this.1 (fun j h1 h2 => this.2.2.1 j h1 h2)

set_option maxRecDepth 100000 in
set_option maxHeartbeats 4000000 in
theorem split_any (s : ByteArray) (hs : s.size ≤ 1048576) (w : World) : Calls Tryd.prog 4 #[.string s] w fun e w' => ∃ v, e = .returned v ∧ SP w w' s v (splitF s.data.toList).length (splitF s.data.toList) := by
  have cO := fun t w => opens_any t w
  go_enter Tryd.func4, Tryd.ntmps4
  go_wp2_with fail
  go_loopw [3, 4, 5] (fun v f i wr => ∃ (k f0 n : Nat) (o : List (Nat × Nat)), k ≤ s.size ∧ f0 ≤ k ∧ n ≤ k ∧ i = .int .i64 (k : Int) ∧ f = .int .i64 (f0 : Int) ∧ Hid (cuts s.data.toList k = (o, f0)) ∧ Hid (LnS s.data.toList k) ∧ SP w wr s v n o) (fun _ _ i _ => s.size - (intOf i).toNat)
  case atStart => exact ⟨0, 0, 0, [], Nat.zero_le _, Nat.le_refl _, Nat.le_refl _, rfl, rfl, rfl, .inr (.inl rfl), World.ownsRow_nil _ _ _ _, Below.refl _ _, rfl⟩
  case round =>
    obtain ⟨k, f0, n, o, hk, hf, hnk, rfl, rfl, HC, HL, P⟩ := hrel
    obtain ⟨a0, c0, rfl⟩ := own_form P.own
    have hl := sizeL s
    by_cases hlt : k < s.size
    · have hi : (k : Int) < s.size := by omega
      have hi2 : (k : Int) ≤ s.size := by omega
      have hfi : (f0 : Int) ≤ k := by omega
      have hkl : k < s.data.toList.length := by omega
      have hsp := behind_spec hkl
      have HH := lns_head HL.out hkl
      have HN : Hid (LnS s.data.toList (behindF s.data.toList k)) := lns_next hkl
      have HCN := cuts_next hkl
      have cB := fun w => behind_any s (by omega) k hlt w
      have cP := fun w => opens_any (s.extract k s.size) w
      have cK := fun w => blank_any (s.extract f0 k) w (by rw [ByteArray.size_extract]; omega)
      rw [exE] at cP
      rw [exS] at cK
      have hq1 := hsp.1
      have hq2 := hsp.2.1
      clear hsp
      obtain ⟨q, hq⟩ : ∃ q, behindF s.data.toList k = q := ⟨_, rfl⟩
      rw [hq] at HN HCN cB hq1 hq2
      have hq3 : q ≤ s.size := by omega
      clear hq HL
      cases hop : opensB (s.data.toList.drop k) with
      | false =>
        rw [hop] at cP
        have HC2 : Hid (cuts s.data.toList q = (o, f0)) := (by show _ = _; rw [HCN, cuts_none (by rw [HH, hop]), HC.out])
        clear HC HCN HH hop cK hq2 hl hkl
        go_wp2_with (first
          | (go_at_call 7; refine (cP _).mono ?_; rintro e w' ⟨rfl, hw'⟩; replace hw' := hw'.symm; subst hw'; clear cP)
          | (go_at_call 6; refine (cB _).mono ?_; rintro e w' ⟨rfl, hw'⟩; replace hw' := hw'.symm; subst hw'; clear cB))
        go_roundw
        case rel => exact ⟨q, f0, n, o, hq3, by omega, by omega, rfl, rfl, HC2, HN, P⟩
        case measure => simp [intOf]; omega
      | true =>
        rw [hop] at cP
        have HC2 : Hid (cuts s.data.toList q = (stepS s.data.toList o f0 k, k)) := (by show _ = _; rw [HCN, cuts_head (by rw [HH, hop]), HC.out])
        clear HC HCN HH hop hq2 hl hkl
        cases hbl : blankB (sliceL s.data.toList f0 k) with
        | true =>
          rw [hbl] at cK
          have HC3 : Hid (cuts s.data.toList q = (o, k)) := (by show _ = _; rw [HC2.out]; unfold stepS; rw [hbl]; rfl)
          clear hbl HC2
          go_wp2_with (first
            | (go_at_call 7; refine (cP _).mono ?_; rintro e w' ⟨rfl, hw'⟩; replace hw' := hw'.symm; subst hw'; clear cP)
            | (go_at_call 8; refine (cK _).mono ?_; rintro e W1 ⟨rfl, B1⟩; have P1 := P.grown B1; clear cK)
            | (go_at_call 6; refine (cB _).mono ?_; rintro e w' ⟨rfl, hw'⟩; replace hw' := hw'.symm; subst hw'; clear cB))
          go_roundw
          case rel => exact ⟨q, k, n, o, hq3, by omega, by omega, rfl, rfl, HC3, HN, P1⟩
          case measure => simp [intOf]; omega
        | false =>
          rw [hbl] at cK
          have HC3 : Hid (cuts s.data.toList q = (o ++ [(f0, k)], k)) := (by show _ = _; rw [HC2.out]; unfold stepS; rw [hbl]; rfl)
          clear hbl HC2
          go_wp2_with (first
            | (go_at_call 7; refine (cP _).mono ?_; rintro e w' ⟨rfl, hw'⟩; replace hw' := hw'.symm; subst hw'; clear cP)
            | (go_at_call 8; refine (cK _).mono ?_; rintro e W1 ⟨rfl, B1⟩; have P1 := P.grown B1; clear cK)
            | (refine wpList_buildT rfl _ rfl (s.extract f0 k) rfl ?_; intro W2 b2 F2 N2; have P2 := P1.fresh F2; clear F2)
            | (refine wpList_appT rfl _ _ rfl w.heap.size _ n (pcs s o) rfl P2.own b2 1 (s.extract f0 k) rfl N2 (by omega) P2.B.size ?_; intro v3 W3 O3 g3; have P3 := P2.app g3 O3; obtain ⟨a3, c3, rfl⟩ := own_form O3; clear O3 g3 P2)
            | (go_at_call 6; refine (cB _).mono ?_; rintro e w' ⟨rfl, hw'⟩; replace hw' := hw'.symm; subst hw'; clear cB))
          go_roundw
          case rel => exact ⟨q, k, n + 1, o ++ [(f0, k)], hq3, by omega, by omega, rfl, rfl, HC3, HN, P3⟩
          case measure => simp [intOf]; omega
    · have hk2 : k = s.size := by omega
      subst hk2
      have cK := fun w => blank_any (s.extract f0 s.size) w (by rw [ByteArray.size_extract]; omega)
      rw [exS] at cK
      have HF : Hid (splitF s.data.toList = stepS s.data.toList o f0 s.size) := (by
        show splitF _ = _
        unfold splitF
        rw [← hl, HC.out])
      have hfi : (f0 : Int) ≤ s.size := by omega
      clear hlt HL HC hl
      cases hbl : blankB (sliceL s.data.toList f0 s.size) with
      | true =>
        rw [hbl] at cK
        have HF2 : Hid (splitF s.data.toList = o) := (by show _ = _; rw [HF.out]; unfold stepS; rw [hbl]; rfl)
        clear hbl HF
        go_wp2_with (first
          | (go_at_call 8; refine (cK _).mono ?_; rintro e W1 ⟨rfl, B1⟩; have P1 := P.grown B1; clear cK))
        go_ret
        exact ⟨_, rfl, by rw [HF2.out]; have := P1.len; subst this; exact P1⟩
      | false =>
        rw [hbl] at cK
        have HF2 : Hid (splitF s.data.toList = o ++ [(f0, s.size)]) := (by show _ = _; rw [HF.out]; unfold stepS; rw [hbl]; rfl)
        clear hbl HF
        go_wp2_with (first
          | (go_at_call 8; refine (cK _).mono ?_; rintro e W1 ⟨rfl, B1⟩; have P1 := P.grown B1; clear cK)
          | (refine wpList_buildT rfl _ rfl (s.extract f0 s.size) rfl ?_; intro W2 b2 F2 N2; have P2 := P1.fresh F2; clear F2)
          | (refine wpList_appT rfl _ _ rfl w.heap.size _ n (pcs s o) rfl P2.own b2 1 (s.extract f0 s.size) rfl N2 (by omega) P2.B.size ?_; intro v3 W3 O3 g3; have P3 := P2.app g3 O3; obtain ⟨a3, c3, rfl⟩ := own_form O3; clear O3 g3 P2))
        go_ret
        refine ⟨_, rfl, ?_⟩
        rw [HF2.out]
        have := P3.len
        rw [this]
        exact P3
end Go.Proofs.YtpbcngnginffgaaDoor

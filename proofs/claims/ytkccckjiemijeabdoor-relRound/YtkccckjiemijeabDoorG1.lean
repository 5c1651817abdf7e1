/- Laying the first order: the recursion of lay, for a caller that takes one order and leaves. -/
import Derived.Test.YtkccckjiemijeabDoorG0
import Derived.Test.YtkccckjiemijeabDoorH0
import Derived.Test.YtkccckjiemijeabDoorZ2
namespace Go.Proofs.YtkccckjiemijeabDoor
open Go.RowKit Go.Shelf M
attribute [local go_sem] Oper.semAt_some
set_option linter.unusedSimpArgs false
set_option linter.unusedVariables false

/-- What was laid ahead of B, and one block more, lies as it lay. -/
structure Kin (B : Nat) (own : Option Nat) (X Y : World) : Prop where
  os : Y.os = X.os
  tape : Y.tape = X.tape
  output : Y.output = X.output
  size : X.heap.size ≤ Y.heap.size
  block : ∀ k o, X.heap[k]? = some o → (k < B ∨ own = some k) → Y.heap[k]? = some o
def Dep (B : Nat) (own : Option Nat) (J : World → Prop) : Prop := ∀ X Y, J X → Kin B own X Y → J Y
theorem Kin.refl (B : Nat) (own : Option Nat) (X : World) : Kin B own X X := ⟨rfl, rfl, rfl, Nat.le_refl _, fun _ _ h _ => h⟩
theorem Kin.trans {B : Nat} {own : Option Nat} {X Y Z : World} (h : Kin B own X Y) (k : Kin B own Y Z) : Kin B own X Z :=
  ⟨k.os.trans h.os, k.tape.trans h.tape, k.output.trans h.output, Nat.le_trans h.size k.size, fun j o hj hb => k.block j o (h.block j o hj hb) hb⟩
theorem kin_below {B : Nat} {own : Option Nat} {X Y : World} (h : Below X.heap.size X Y) : Kin B own X Y :=
  ⟨h.os, h.tape, h.output, h.size, fun k o hk _ => (h.block k (Array.getElem?_eq_some_iff.1 hk).1).trans hk⟩
theorem kin_grown {B : Nat} {own row : Option Nat} {X Y : World} (h : X.grownBy Y row) (hr : ∀ r, row = some r → B ≤ r ∧ own ≠ some r) : Kin B own X Y :=
  ⟨h.os, h.tape, h.output, h.size, fun k o hk hb => (h.block k (Array.getElem?_eq_some_iff.1 hk).1 (fun e => by
    have := hr k e.symm
    rcases hb with hb | hb
    · omega
    · exact this.2 hb)).trans hk⟩
theorem kin_upd {B b : Nat} {own : Option Nat} {X Y : World} (h : Upd X Y b) (hb : B ≤ b) (ho : own ≠ some b) : Kin B own X Y :=
  ⟨h.os, h.tape, h.output, by rw [h.size]; exact Nat.le_refl _, fun k o hk hk' => (h.block k (fun e => by
    subst e
    rcases hk' with hk' | hk'
    · omega
    · exact ho hk')).trans hk⟩
/-- All blocks but some lie as they lay. -/
def KeepL (bs : List Nat) (own : Option Nat) (W W' : World) : Prop := W.heap.size ≤ W'.heap.size ∧ ∀ k o, W.heap[k]? = some o → k ∉ bs → own ≠ some k → W'.heap[k]? = some o
theorem KeepL.trans {bs : List Nat} {own : Option Nat} {X Y Z : World} (h : KeepL bs own X Y) (k : KeepL bs own Y Z) : KeepL bs own X Z :=
  ⟨Nat.le_trans h.1 k.1, fun j o hj hb ho => k.2 j o (h.2 j o hj hb ho) hb ho⟩
theorem keepL_below {bs : List Nat} {own : Option Nat} {X Y : World} (h : Below X.heap.size X Y) : KeepL bs own X Y :=
  ⟨h.size, fun k o hk _ _ => (h.block k (Array.getElem?_eq_some_iff.1 hk).1).trans hk⟩
theorem round_any {n n' l : Nat} {fn : FuncId} {t : Array Value} {a b : Code} {W : World} {R : Ending → World → Prop} (h : RoundIn Fence.wide n Tryd.prog l fn t a b W R) : RoundIn Fence.wide n' Tryd.prog l fn t a b W R :=
  ⟨h.1, fun c cs hr => h.2 c cs (by simp [Fence.room, Fence.wide])⟩

theorem own_below {W W' : World} {base e s n : Nat} {v : Value} {xs : List Value} (h : W.ownsRow base e s v n xs) (hb : Below W.heap.size W W') : W'.ownsRow base e s v n xs := by
  refine ⟨h.1, ?_⟩
  rcases h.2 with hn | ⟨g, cap, cur, rfl, hg, hh, rest⟩
  · exact Or.inl hn
  · exact Or.inr ⟨g, cap, cur, rfl, hg, (hb.block g (Array.getElem?_eq_some_iff.1 hh).1).trans hh, rest⟩
theorem own_base {W : World} {base base' e s n : Nat} {v : Value} {xs : List Value} (h : W.ownsRow base e s v n xs) (hb : base' ≤ base) : W.ownsRow base' e s v n xs := by
  refine ⟨h.1, ?_⟩
  rcases h.2 with hn | ⟨g, cap, cur, rfl, hg, hh, rest⟩
  · exact Or.inl hn
  · exact Or.inr ⟨g, cap, cur, rfl, Nat.le_trans hb hg, hh, rest⟩

theorem own_kp {W W' : World} {B base e s n : Nat} {bs : List Nat} {v : Value} {xs : List Value} (h : W.ownsRow base e s v n xs) (kp : KpB B bs [] W W') (hbs : ∀ b ∈ bs, b < B) (hB : B ≤ base) : W'.ownsRow base e s v n xs := by
  refine ⟨h.1, ?_⟩
  rcases h.2 with hn | ⟨g, cap, cur, rfl, hg, hh, rest⟩
  · exact Or.inl hn
  · exact Or.inr ⟨g, cap, cur, rfl, hg, kp.2 g _ hh (fun hm => by have := hbs g hm; omega) (fun _ _ _ _ _ => by simp), rest⟩
theorem keepL_kp {B : Nat} {bs : List Nat} {own : Option Nat} {W W' : World} (kp : KpB B bs [] W W') : KeepL bs own W W' := ⟨kp.1, fun k o hk hb _ => kp.2 k o hk hb (fun _ _ _ _ _ => by simp)⟩
theorem own_updN {W W' : World} {base e s n b : Nat} {v : Value} {xs : List Value} (h : W.ownsRow base e s v n xs) (U : Upd W W' b) (hb : v.ownBlock ≠ some b) : W'.ownsRow base e s v n xs := by
  refine ⟨h.1, ?_⟩
  rcases h.2 with hn | ⟨g, cap, cur, rfl, hg, hh, rest⟩
  · exact Or.inl hn
  · exact Or.inr ⟨g, cap, cur, rfl, hg, (U.block g (fun e => hb (by rw [← e]; rfl))).trans hh, rest⟩
theorem keepL_upd {bs : List Nat} {own : Option Nat} {X Y Z : World} {b : Nat} (h : KeepL bs own X Y) (U : Upd Y Z b) (hb : X.heap.size ≤ b) : KeepL bs own X Z :=
  ⟨by rw [U.size]; exact h.1, fun k o hk h1 h2 => (U.block k (fun e => by have := (Array.getElem?_eq_some_iff.1 hk).1; omega)).trans (h.2 k o hk h1 h2)⟩
theorem boxed_frozen {W : World} {b t : Nat} {v : Value} (h : Boxed W b t v) : W.frozen? ⟨b, 0, none⟩ = false := by
  have h' : W.heap[b]? = some (.cells #[v] t (0, 0)) := h
  simp [World.frozen?, h']
theorem boxed_set {W : World} {b t : Nat} {v : Value} (h : Boxed W b t v) (u : Value) : Boxed (W.setCell ⟨b, 0, none⟩ u) b t u := by
  have h' : W.heap[b]? = some (.cells #[v] t (0, 0)) := h
  show (W.heap.modify b _)[b]? = _
  rw [Array.getElem?_modify, if_pos rfl, h']
  rfl

theorem results_b {fn : Func} {p : Tmp} (h : fn.results = #[.cell p 4]) {tmps : Array Value} {w : World} {b : Nat} {v : Value} (hp : tmps.getD p undef = .pointer (some ⟨b, 0, none⟩)) (hc : Boxed w b 4 v) : (results fn tmps).run Tryd.prog w = .ok v w := by
  have hp' : tmps[p]?.getD undef = .pointer (some ⟨b, 0, none⟩) := by simpa using hp
  have := hc.cell
  simp only [results, h]
  simp [Sem.run_bind, Result.andThen, hp', asAddr, go_sem, this]

/-- The call's own boxes. -/
theorem five (W : World) (p r v y z : Value) : ∃ W5, (((((W.alloc (.cells #[p] 74)).alloc (.cells #[r] 22)).alloc (.cells #[v] 40)).alloc (.cells #[y] 72)).alloc (.cells #[z] 4)) = W5 ∧ Below W.heap.size W W5 ∧ W5.heap.size = W.heap.size + 5 ∧
    Boxed W5 W.heap.size 74 p ∧ Boxed W5 (W.heap.size + 1) 22 r ∧ Boxed W5 (W.heap.size + 2) 40 v ∧ Boxed W5 (W.heap.size + 3) 72 y ∧ Boxed W5 (W.heap.size + 4) 4 z := by
  refine ⟨_, rfl, (((((Below.refl _ W).alloc (Nat.le_refl _) _).alloc (by simp) _).alloc (by simp; omega) _).alloc (by simp; omega) _).alloc (by simp; omega) _, by simp, ?_, ?_, ?_, ?_, ?_⟩
  · exact ((((Boxed.new W 74 p).alloc _).alloc _).alloc _).alloc _
  · have := ((((Boxed.new (W.alloc (.cells #[p] 74)) 22 r).alloc (.cells #[v] 40)).alloc (.cells #[y] 72)).alloc (.cells #[z] 4))
    simpa using this
  · have := (((Boxed.new ((W.alloc (.cells #[p] 74)).alloc (.cells #[r] 22)) 40 v).alloc (.cells #[y] 72)).alloc (.cells #[z] 4))
    simpa using this
  · have := ((Boxed.new (((W.alloc (.cells #[p] 74)).alloc (.cells #[r] 22)).alloc (.cells #[v] 40)) 72 y).alloc (.cells #[z] 4))
    simpa using this
  · have := (Boxed.new ((((W.alloc (.cells #[p] 74)).alloc (.cells #[r] 22)).alloc (.cells #[v] 40)).alloc (.cells #[y] 72)) 4 z)
    simpa using this

set_option maxRecDepth 100000 in
set_option maxHeartbeats 2000000 in
theorem lay_zero (l B : Nat) (bs : List Nat) (hbs : ∀ b ∈ bs, b < B) (bi : Nat) (o : List Nat) (ho : o.length ≤ 64) (J : World → Prop) (Jx : Value → World → Prop) (hJ : Dep B none J) (hJx : ∀ v, Dep B v.ownBlock (Jx v))
    (hY : ∀ v W1 m, J W1 → W1.ownsRow B 3 1 v o.length (encI o) → YieldAt Fence.wide m Tryd.prog l #[v] W1 fun e W' => e = .returned (.bool false) ∧ Jx v W' ∧ KpB B bs [] W1 W')
    (ad : Option Addr) (cap : Nat) (W : World) (jW : J W) (hB : B ≤ W.heap.size) (hown : W.ownsRow B 3 1 (.slice ad o.length cap) o.length (encI o)) :
    Calls Tryd.prog 51 #[.pointer (some ⟨bi, 0, none⟩), .int .u64 0, .slice ad o.length cap, .func (.yield l) #[] #[]] W fun e W' => ∃ v', e = .returned (.bool false) ∧ Jx v' W' ∧ W'.ownsRow W.heap.size 3 1 v' o.length (encI o) ∧ KeepL bs (Value.slice ad o.length cap).ownBlock W W' := by
  refine (callsIn_wide (n := 8)).1 ?_
  refine callsIn_of_wp_marks Tryd.func51 rfl trivial ?_ rfl
  simp only [Tryd.ntmps51, List.size_toArray, List.length_cons, List.length_nil, Nat.reduceAdd, Nat.reduceSub, Array.replicate_succ, Array.replicate_zero, List.push_toArray, List.append_toArray, List.nil_append, List.cons_append]
  gi_wp2
  obtain ⟨W5, e5, B5, s5, c4, c5, c6, c7, c8⟩ := five W (.pointer (some ⟨bi, 0, none⟩)) (.int .u64 0) (.slice ad o.length cap) (.func (.yield l) #[] #[]) (.bool false)
  rw [e5]
  clear e5
  obtain ⟨b6, hb6⟩ : ∃ b, W.heap.size + 2 = b := ⟨_, rfl⟩
  obtain ⟨b7, hb7⟩ : ∃ b, W.heap.size + 3 = b := ⟨_, rfl⟩
  obtain ⟨b8, hb8⟩ : ∃ b, W.heap.size + 4 = b := ⟨_, rfl⟩
  simp only [Nat.add_assoc, Nat.reduceAdd]
  rw [hb6] at c6 ⊢
  rw [hb7] at c7 ⊢
  rw [hb8] at c8 ⊢
  refine wpIn_mono (Q := fun e a' w' => e = Exit.normal ∧ a'.tmps.getD 8 undef = .pointer (some ⟨b8, 0, none⟩) ∧ a'.defers = [] ∧ ∃ v', Jx v' w' ∧ w'.ownsRow W.heap.size 3 1 v' o.length (encI o) ∧ KeepL bs (Value.slice ad o.length cap).ownBlock W w' ∧ Boxed w' b8 4 (.bool false)) ?_ ?_
  · refine region_headC (fun w => (Boxed w b6 40 (.slice ad o.length cap) ∧ Boxed w b7 72 (.func (.yield l) #[] #[])) ∧ Below W5.heap.size W5 w) 3 (by kernel_rfl) (by decide) ?_
    have hC : ∀ w, Below W5.heap.size W5 w → (Boxed w b6 40 (.slice ad o.length cap) ∧ Boxed w b7 72 (.func (.yield l) #[] #[])) ∧ Below W5.heap.size W5 w := fun w h => ⟨⟨(h.block b6 (by omega)).trans c6, (h.block b7 (by omega)).trans c7⟩, h⟩
    refine atC_take (fun _ => trivial) (headed_of (by kernel_rfl)) 0 rfl (by kernel_rfl) (fun c a w h => absurd h.1 (by simp)) (v := .func (.yield l) #[] #[]) (.inl ⟨rfl, fun w hc => ?y0⟩) (hC _ (below_drawn W5)) ?_
    case y0 =>
      have := hc.1.2.cell
      simp [execOp, go_sem, this]
    simp only [Act.put, List.getElem_toArray, List.getElem_cons_zero, List.getElem_cons_succ, List.setIfInBounds_toArray, List.set_cons_succ, List.set_cons_zero]
    refine atC_take (fun _ => trivial) (headed_of (by kernel_rfl)) 1 rfl (by kernel_rfl) (fun c a w h => absurd h.1 (by simp)) (v := .slice ad o.length cap) (.inl ⟨rfl, fun w hc => ?y1⟩) (hC _ (below_drawn W5)) ?_
    case y1 =>
      have := hc.1.1.cell
      simp [execOp, go_sem, this]
    simp only [Act.put, List.getElem_toArray, List.getElem_cons_zero, List.getElem_cons_succ, List.setIfInBounds_toArray, List.set_cons_succ, List.set_cons_zero]
    refine atC_next 2 rfl (by kernel_rfl) (fun K hK => ?_)
    have hown5 : ({ W5 with drawn := W5.drawn + 1 } : World).ownsRow B 3 1 (.slice ad o.length cap) o.length (encI o) := own_below (own_below hown B5) (below_drawn W5)
    have hf57 : Fence.wide.fn 57 := trivial
    go_simp
    gi_at_call 57
    refine (callsIn_wide.2 (clone_own (.slice ad o.length cap) o B W5.drew hown5 ho)).mono ?_
    rintro e W6 ⟨v', rfl, ov, hW6⟩
    have B6 : Below W5.heap.size W5 W6 := (below_drawn W5).trans hW6
    refine hK _ _ (hC _ B6) ?_
    refine atC_end (by kernel_rfl) ?_
    clear hK K hC hown5
    have ov' : W6.ownsRow W.heap.size 3 1 v' o.length (encI o) := own_base ov (by show W.heap.size ≤ W5.heap.size; omega)
    have j6 : J W6 := hJ W W6 jW (kin_below (B5.trans (B6.mono (by omega))))
    obtain ⟨fn, tmps, assign, body, hy, hR⟩ := hY v' W6 7 j6 (own_base ov' hB)
    have k8 : Boxed W6 b8 4 (.bool false) := (B6.block b8 (by omega)).trans c8
    have hk : KeepL bs (Value.slice ad o.length cap).ownBlock W W6 := keepL_below (B5.trans (B6.mono (by omega)))
    have hg8 : v'.ownBlock ≠ some b8 := fun e => by
      have := (ov.lt b8 e).1
      change W5.heap.size ≤ b8 at this
      omega
    clear hown hW6 c4 c5 c6 c7 c8 B5 jW j6 ov hY
    simp only [List.drop_succ_cons, List.drop_zero]
    gi_wp2
    refine hR.mono ?_
    rintro e W7 ⟨rfl, jx7, kp7⟩
    have k8' : Boxed W7 b8 4 (.bool false) := kp7.2 b8 _ k8 (fun hm => by have := hbs b8 hm; omega) (fun _ _ _ _ _ => by simp)
    have own7 := own_kp ov' kp7 hbs hB
    have hk7 := hk.trans (keepL_kp (own := (Value.slice ad o.length cap).ownBlock) kp7)
    have cell8 := k8'.cell
    have fz8 := boxed_frozen k8'
    have U := Upd.setCell W7 b8 0 (.bool false)
    have HQ : Hid (Jx v' (W7.setCell ⟨b8, 0, none⟩ (.bool false)) ∧ (W7.setCell ⟨b8, 0, none⟩ (.bool false)).ownsRow W.heap.size 3 1 v' o.length (encI o) ∧ KeepL bs (Value.slice ad o.length cap).ownBlock W (W7.setCell ⟨b8, 0, none⟩ (.bool false)) ∧ Boxed (W7.setCell ⟨b8, 0, none⟩ (.bool false)) b8 4 (.bool false)) :=
      ⟨hJx v' W7 _ jx7 (kin_upd U (by omega) hg8), own_updN own7 U hg8, keepL_upd hk7 U (by omega), boxed_set k8' _⟩
    clear jx7 kp7 own7 hk7 U k8' k8 hk ov' hR
    gi_wp2
    exact ⟨v', HQ.out⟩
  · rintro e a' W8 ⟨rfl, ha8, had, v', q1, q2, q3, q4⟩
    gi_wp2
    show LeavesInM _ _ _ _ _ _ _ _ _
    rw [had]
    exact ⟨_, results_b rfl ha8 q4, v', rfl, q1, q2, q3⟩
end Go.Proofs.YtkccckjiemijeabDoor

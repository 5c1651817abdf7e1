/- CP, AE -/
import Derived.Test.YtegpnicajlndlaaQau
import Derived.Test.YtegpnicajlndlaaQah
import Derived.Test.YtegpnicajlndlaaQD
import Derived.Test.YtegpnicajlndlaaQap
import Derived.Test.YtegpnicajlndlaaRC
import Derived.Test.YtegpnicajlndlaaQar
namespace Go.Proofs.Ytegpnicajlndlaa
open Go.RowKit M
set_option linter.unusedSimpArgs false
set_option linter.unusedVariables false
def z5 : List Value := [.slice none 0 0, .slice none 0 0, .slice none 0 0, .slice none 0 0, .slice none 0 0]
theorem zeroPg (w : World) : (zeroValue 28).run Try.prog w = .ok (.agg z5.toArray) w := Try.zeroValue28 w
structure KT (w wr : World) (b1 b2 b3 : Nat) (P5 C5 : List Value) (v9 v13 v16 vo : Value) (xs : List (List Op5)) (p : PG) : Prop where
 c1 : IsS wr b1 28 P5
 c2 : IsS wr b2 28 z5
 c3 : IsS wr b3 28 C5
 hl : wr.ownsRow w.heap.size 9 1 v9 p.locs.length (p.locs.flatMap strE)
 hj : wr.ownsRow w.heap.size 2 1 v13 p.locInit.length (p.locInit.flatMap intE)
 hi : OwnRows wr w.heap.size 26 2 1 v16 intE p.regInit
 ot : OwnRows wr w.heap.size 61 63 5 vo op5L xs
theorem isS_grow {W W' : World} {B b t t' n s : Nat} {v : Value} {cs xs : List Value} (h : IsS W b t cs) (ho : W.ownsRow B t' s v n xs) (hg : W.grownBy W' v.ownBlock) (ht : t ≠ t') : IsS W' b t cs := by
 refine (hg.block b h.lt (fun e => ?_)).trans h
 rcases ho.2 with ⟨rfl, _⟩ | ⟨g', cap', cur', rfl, _, hh', _⟩
 · cases e
 · simp [Value.ownBlock] at e
   subst e
   have h' : W.heap[b]? = some (.cells cs.toArray t) := h
   rw [h'] at hh'
   simp at hh'
   exact ht hh'.2
theorem rows_grow {α : Type} {W W' : World} {B t tin k t' n s : Nat} {v v' : Value} {enc : α → List Value} {xss : List (List α)} {xs : List Value} (h : OwnRows W B t tin k v enc xss) (ho : W.ownsRow B t' s v' n xs) (hg : W.grownBy W' v'.ownBlock) (h1 : t ≠ t') (h2 : tin ≠ t') : OwnRows W' B t tin k v enc xss := by
 obtain ⟨vs, a1, a2, a3⟩ := h
 exact ⟨vs, a1, own_grow a2 ho hg h1, fun j u ys hu hy => own_grow (a3 j u ys hu hy) ho hg h2⟩
section
variable {w wr W' : World} {b1 b2 b3 : Nat} {P5 C5 : List Value} {v9 v13 v16 vo : Value} {xs : List (List Op5)} {p : PG}
theorem KT.below (h : KT w wr b1 b2 b3 P5 C5 v9 v13 v16 vo xs p) (hB : Below wr.heap.size wr W') : KT w W' b1 b2 b3 P5 C5 v9 v13 v16 vo xs p :=
 ⟨h.c1.grown hB, h.c2.grown hB, h.c3.grown hB, own_below h.hl hB, own_below h.hj hB, h.hi.below hB, h.ot.below hB⟩
theorem KT.grow1 {n : Nat} {v : Value} {ys : List Value} (h : KT w wr b1 b2 b3 P5 C5 v9 v13 v16 (.slice none 0 0) [] p) (ho : wr.ownsRow w.heap.size 61 1 v n ys) (hg : wr.grownBy W' v.ownBlock) : KT w W' b1 b2 b3 P5 C5 v9 v13 v16 (.slice none 0 0) [] p :=
 ⟨isS_grow h.c1 ho hg (by decide), isS_grow h.c2 ho hg (by decide), isS_grow h.c3 ho hg (by decide), own_grow h.hl ho hg (by decide), own_grow h.hj ho hg (by decide), rows_grow h.hi ho hg (by decide) (by decide), OwnRows.nil _ _ _ _ _ _⟩
theorem KT.grow2 {n : Nat} {v : Value} {ys : List Value} (h : KT w wr b1 b2 b3 P5 C5 v9 v13 v16 vo xs p) (ho : wr.ownsRow w.heap.size 24 1 v n ys) (hg : wr.grownBy W' v.ownBlock) : KT w W' b1 b2 b3 P5 C5 v9 v13 v16 vo xs p :=
 ⟨isS_grow h.c1 ho hg (by decide), isS_grow h.c2 ho hg (by decide), isS_grow h.c3 ho hg (by decide), own_grow h.hl ho hg (by decide), own_grow h.hj ho hg (by decide), rows_grow h.hi ho hg (by decide) (by decide), rows_grow h.ot ho hg (by decide) (by decide)⟩
theorem own_upd {W W1 : World} {B t s n b : Nat} {v : Value} {cs ys : List Value} {t' : Nat} (h : W.ownsRow B t s v n ys) (hc : IsS W b t' cs) (U : Upd W W1 b) (ht : t ≠ t') : W1.ownsRow B t s v n ys := by
 refine ⟨h.1, ?_⟩
 rcases h.2 with hn | ⟨g, cap, cur, rfl, hg1, hh, rest⟩
 · exact Or.inl hn
 · refine Or.inr ⟨g, cap, cur, rfl, hg1, (U.block g (fun e => ?_)).trans hh, rest⟩
   subst e
   have h' : W.heap[g]? = some (.cells cs.toArray t') := hc
   rw [h'] at hh
   simp at hh
   exact ht hh.2.symm
theorem rows_upd {α : Type} {W W1 : World} {B t tin k b t' : Nat} {v : Value} {enc : α → List Value} {xss : List (List α)} {cs : List Value} (h : OwnRows W B t tin k v enc xss) (hc : IsS W b t' cs) (U : Upd W W1 b) (h1 : t ≠ t') (h2 : tin ≠ t') : OwnRows W1 B t tin k v enc xss := by
 obtain ⟨vs, a1, a2, a3⟩ := h
 exact ⟨vs, a1, own_upd a2 hc U h1, fun j u ys hu hy => own_upd (a3 j u ys hu hy) hc U h2⟩
theorem KT.store {D5 : List Value} (h : KT w wr b1 b2 b3 P5 C5 v9 v13 v16 vo xs p) (U : Upd wr W' b3) (hD : IsS W' b3 28 D5) (h13 : b1 ≠ b3) (h23 : b2 ≠ b3) : KT w W' b1 b2 b3 P5 D5 v9 v13 v16 vo xs p :=
 ⟨h.c1.upd U h13, h.c2.upd U h23, hD, own_upd h.hl h.c3 U (by decide), own_upd h.hj h.c3 U (by decide), rows_upd h.hi h.c3 U (by decide) (by decide), rows_upd h.ot h.c3 U (by decide) (by decide)⟩
end
theorem info41 : (Try.prog.info? 22).map (·.size) = some 1 := by kernel_rfl
theorem info42 : (Try.prog.info? 23).map (·.size) = some 1 := by kernel_rfl
theorem rd1 {w : World} {b t o : Nat} {cs : List Value} {op : Oper} {a : Act} {ty : TypeId} {x : Operand} {v : Value} (hc : IsS w b t cs) (hv : cs[o]? = some v) (ho : op.op = .load ty x) (hx : a.eval x = .pointer (some ⟨b, o, none⟩)) (hl : ∀ w, w.cell? ⟨b, o, none⟩ = some v → (Instr.loadAt ty (.pointer (some ⟨b, o, none⟩))).run Try.prog w = .ok v w) : (execOp a.eval op).run Try.prog w = .ok (.value v) w := by
 unfold execOp
 simp only [ho, hx, Sem.run_bind, hl w ((hc.cell o).trans hv), Result.andThen_ok, Sem.run_pure]
theorem rdc {w : World} {b o : Nat} {op : Oper} {a : Act} {ty : TypeId} {x : Operand} {v : Value} (hc : w.cell? ⟨b, o, none⟩ = some v) (ho : op.op = .load ty x) (hx : a.eval x = .pointer (some ⟨b, o, none⟩)) (hl : ∀ w, w.cell? ⟨b, o, none⟩ = some v → (Instr.loadAt ty (.pointer (some ⟨b, o, none⟩))).run Try.prog w = .ok v w) : (execOp a.eval op).run Try.prog w = .ok (.value v) w := by
 unfold execOp
 simp only [ho, hx, Sem.run_bind, hl w hc, Result.andThen_ok, Sem.run_pure]
theorem run_b47 {w : World} {op : Oper} {a : Act} {x y z : Operand} {a1 a2 a3 : Option Addr} {n1 n2 n3 c1 c2 c3 : Nat} (ho : op.op = .build 28 #[(2, x), (4, y), (3, z)]) (hx : a.eval x = .slice a1 n1 c1) (hy : a.eval y = .slice a2 n2 c2) (hz : a.eval z = .slice a3 n3 c3) :
    (execOp a.eval op).run Try.prog w = .ok (.value (.agg #[.slice none 0 0, .slice none 0 0, .slice a1 n1 c1, .slice a3 n3 c3, .slice a2 n2 c2])) w := by
 generalize a.eval = ev at hx hy hz ⊢
 unfold execOp
 simp [ho, hx, hy, hz, go_sem]
theorem one5 {v0 v1 v2 v3 v4 : Value} (h0 : v0.oneCell' = true) (h1 : v1.oneCell' = true) (h2 : v2.oneCell' = true) (h3 : v3.oneCell' = true) (h4 : v4.oneCell' = true) : ∀ v ∈ [v0, v1, v2, v3, v4], v.oneCell' = true := by
 intro v hv
 simp only [List.mem_cons, List.not_mem_nil, or_false] at hv
 rcases hv with rfl | rfl | rfl | rfl | rfl <;> assumption
theorem OwnRows.raise {α : Type} {W : World} {B B' t tin k : Nat} {v : Value} {enc : α → List Value} {xss : List (List α)} (h : OwnRows W B' t tin k v enc xss) (hb : B ≤ B') : OwnRows W B t tin k v enc xss := by
 obtain ⟨vs, h1, h2, h3⟩ := h; exact ⟨vs, h1, own_raise h2 hb, fun j u xs hu hx => own_raise (h3 j u xs hu hx) hb⟩
theorem OwnRows.cell {α : Type} {W : World} {B t tin k : Nat} {v : Value} {enc : α → List Value} {xss : List (List α)} (h : OwnRows W B t tin k v enc xss) : v.oneCell' = true := by
 obtain ⟨vs, h1, h2, h3⟩ := h; exact own_cell h2
def Where (w : World) (v v' : Value) : Prop := v'.ownBlock = v.ownBlock ∨ ∃ g, v'.ownBlock = some g ∧ w.heap.size ≤ g
theorem app_whereE {w w' : World} {t T k by' : Nat} {z : Value} (E : Elt t T k z by') {B n m : Nat} {v v' : Value} {xs cs : List Value} {ad : Addr} {c : Nat} {ty : TypeId} (hown : w.ownsRow B t k v n xs) (hm : 0 < m) (hl : cs.length = m * k) (hnews : ∀ j y, cs[j]? = some y → w.cell? (ad.add j) = some y) (h1 : ∀ x ∈ cs, x.oneCell' = true) (hn : n + m ≤ 4194304)
    (hr : (Builtin.append_ #[T, T] ty #[v, .slice (some ad) m c]).run Try.prog w = .ok v' w') : Where w v v' := by
 obtain ⟨i0, hi, hz, hs, hby⟩ := E.info
 have hfew := E.few
 have hl1 : cs.length = m * i0.size := by rw [hl, hs]
 have hb : ∀ q, q ≤ 4194304 → q * i0.bytes ≤ 140737488355328 := fun q hq => by rw [hby]; exact Nat.le_trans (Nat.mul_le_mul hq hfew) (by decide)
 rcases hown.2 with ⟨rfl, hn0⟩ | ⟨g, cap, cur, rfl, hbg, hgc, hnc, hcm, hcs, htake⟩
 · have h2 := run_append_nil (P := Try.prog) w T ty t i0 _ E.und hi hz ad m c cs hl1 hnews hm (by omega) (Nat.le_trans (hb m (by omega)) (by decide))
   rw [hr] at h2
   injection h2 with e1 e2
   rw [e1]
   exact .inr ⟨w.heap.size, rfl, Nat.le_refl _⟩
 · by_cases hroom : n + m ≤ cap
   · have h2 := run_append_room (P := Try.prog) w T ty t i0 E.und hi g n cap cur hgc ad m c cs hl1 hnews h1 hroom (by rw [hs, hcs, hl, ← Nat.add_mul]; exact Nat.mul_le_mul_right _ hroom)
     rw [hr] at h2
     injection h2 with e1 e2
     rw [e1]
     exact .inl rfl
   · have h2 := run_append_grow (P := Try.prog) w T ty t i0 _ E.und hi hz ⟨g, 0, none⟩ n cap xs (by rw [hs]; exact hown.1) (hown.cells (g := g) rfl) ad m c cs hl1 hnews (by omega) (by omega) (growslice_fits (by omega) (hb _ hn))
     rw [hr] at h2
     injection h2 with e1 e2
     rw [e1]
     exact .inr ⟨w.heap.size, rfl, Nat.le_refl _⟩
section
variable {w : World} {ops : Array Oper} {rest : List Oper} {op : Oper} {a : Act} {Q : Exit → Act → World → Prop} {t T k by' : Nat} {z : Value}
theorem wpList_appW (E : Elt t T k z by') (hgd : op.guard = none) (s x : Operand) (ho : op.op = .call { callee := .builtin .append, args := #[s, x], argTypes := #[T, T] })
    (B : Nat) (v : Value) (n : Nat) (xs : List Value) (hs : a.eval s = v) (hown : w.ownsRow B t k v n xs) (b : Nat) (cs : List Value) (hx : a.eval x = .slice (some ⟨b, 0, none⟩) 1 1) (I : IsS w b t cs) (hl : cs.length = k) (h1 : ∀ x ∈ cs, x.oneCell' = true) (hn : n + 1 ≤ 4194304) (hB : B ≤ w.heap.size)
    (h : ∀ v' w', w'.ownsRow B t k v' (n + 1) (xs ++ cs) → w.grownBy w' v.ownBlock → Where w v v' → wpList Try.prog ops Q rest (a.put op.dst v') w') : wpList Try.prog ops Q (op :: rest) a w := by
 refine wpList_plain hgd fun K hK => ?_
 obtain ⟨v', w', hr, h2, h3⟩ := run_appM E B v n xs hown _ 1 cs (row_isS (n := 1) (c := 1) I) (by rw [hl, Nat.one_mul]) h1 hn hB op.type
 have h4 := app_whereE E hown (by omega) (by rw [hl, Nat.one_mul]) (ad := ⟨b, 0, none⟩) (fun j y hj => by rw [Addr.add_mid, Nat.zero_add, I.cell]; exact hj) h1 hn hr
 unfold Oper.wp
 rw [exec_app s x ho hs hx hr]
 exact hK _ _ (h v' w' h2 h3 h4)
end
def Apart (u v : Value) : Prop := ∀ k, u.ownBlock = some k → v.ownBlock ≠ some k
theorem Apart.symm {u v : Value} (h : Apart u v) : Apart v u := fun k hk e => h k e hk
theorem own_apart {w w' : World} {B t s n B' t' s' n' : Nat} {v u : Value} {xs ys : List Value} (h : w.ownsRow B t s v n xs) (hu : w.ownsRow B' t' s' u n' ys) (hd : Apart u v) (hg : w.grownBy w' v.ownBlock) : w'.ownsRow B' t' s' u n' ys :=
 own_same hu fun k hk => hg.block k (own_lt hu hk).2 (fun e => hd k hk e.symm)
theorem Where.apart {w : World} {B t s n : Nat} {v v' u : Value} {xs : List Value} (h : Where w v v') (hu : w.ownsRow B t s u n xs) (hd : Apart u v) : Apart u v' := fun k hk e => by
 rcases h with h | ⟨g, h, hg⟩
 · exact hd k hk (by rw [← h]; exact e)
 · rw [h] at e
   cases e
   have := (own_lt hu hk).2
   omega
theorem apart_nil (v : Value) (n c : Nat) : Apart (.slice none n c) v := fun k hk => by cases hk
end Go.Proofs.Ytegpnicajlndlaa
